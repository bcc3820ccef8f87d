/- Jumps in numbers: the holes of a line as a sum, what a jump needs, what it makes. Of no program. A line of a board and its pegs: hasLine, isBeforeJump, isAfterJump, flipLine of the program, l05Is and l05Bits of the model. Whether a line is one of a board: hasLine of the program, l05Is of the model. Jumps: CanJump, DoJump of both. Undone jumps: CanUndo, UndoJump of both. DoJump, JumpsOf of both. UndoJump, UndosOf of both. JumpsOf of the model. UndosOf of the model. -/
import Derived.Test.YtkenlighpelhiaaPegsAll
import Derived.Test.YtkenlighpelhiaaLinesAll
namespace Go.Proofs.Ytkenlighpelhiaa
/-- The holes of a line as a sum. -/
def lineM (f o t : Nat) : Nat := 2 ^ f ||| 2 ^ o ||| 2 ^ t
def befN (p f o t : Nat) : Bool := bit p f && bit p o && !bit p t
def aftN (p f o t : Nat) : Bool := bit p t && !bit p f && !bit p o
/-- The position with each hole of a line changed. -/
def flipN (p f o t : Nat) : Nat := p ^^^ lineM f o t
theorem bit_line (f o t j : Nat) : bit (lineM f o t) j = (decide (f = j) || decide (o = j) || decide (t = j)) := by rw [lineM, bit_or, bit_or, bit_pow, bit_pow, bit_pow]
theorem bit_flip (p f o t j : Nat) : bit (flipN p f o t) j = (bit p j ^^ (decide (f = j) || decide (o = j) || decide (t = j))) := by rw [flipN, bit_xor, bit_line]
theorem and_bef {p f o t : Nat} (h1 : f ≠ o) (h2 : f ≠ t) (h3 : o ≠ t) : (p &&& lineM f o t == 2 ^ f ||| 2 ^ o) = befN p f o t := by
  have hb : ∀ j, bit (p &&& lineM f o t) j = (bit p j && (decide (f = j) || decide (o = j) || decide (t = j))) := fun j => by rw [bit_and, bit_line]
  have hc : ∀ j, bit (2 ^ f ||| 2 ^ o) j = (decide (f = j) || decide (o = j)) := fun j => by rw [bit_or, bit_pow, bit_pow]
  rw [Bool.eq_iff_iff, beq_iff_eq]
  constructor
  · intro e
    have ef := hb f; have eo := hb o; have et := hb t
    rw [e, hc] at ef eo et
    simp [h1, h2, h3, h1.symm, h2.symm, h3.symm] at ef eo et
    simp [befN, ef, eo, et]
  · intro e
    simp only [befN, Bool.and_eq_true, Bool.not_eq_true'] at e
    refine eq_of_bits fun j => ?_
    rw [hb, hc]
    by_cases j1 : f = j
    · subst j1; simp [e.1.1]
    · by_cases j2 : o = j
      · subst j2; simp [e.1.2]
      · by_cases j3 : t = j
        · subst j3; simp [e.2, h2, h3]
        · simp [j1, j2, j3]
theorem and_aft {p f o t : Nat} (h1 : f ≠ o) (h2 : f ≠ t) (h3 : o ≠ t) : (p &&& lineM f o t == 2 ^ t) = aftN p f o t := by
  have hb : ∀ j, bit (p &&& lineM f o t) j = (bit p j && (decide (f = j) || decide (o = j) || decide (t = j))) := fun j => by rw [bit_and, bit_line]
  rw [Bool.eq_iff_iff, beq_iff_eq]
  constructor
  · intro e
    have ef := hb f; have eo := hb o; have et := hb t
    rw [e, bit_pow] at ef eo et
    simp [h1, h2, h3, h1.symm, h2.symm, h3.symm] at ef eo et
    simp [aftN, ef, eo, ← et]
  · intro e
    simp only [aftN, Bool.and_eq_true, Bool.not_eq_true'] at e
    refine eq_of_bits fun j => ?_
    rw [hb, bit_pow]
    by_cases j1 : f = j
    · subst j1; simp [e.1.2, h2.symm]
    · by_cases j2 : o = j
      · subst j2; simp [e.2, h3.symm]
      · by_cases j3 : t = j
        · subst j3; simp [e.1.1]
        · simp [j1, j2, j3]
theorem flip_flip (p f o t : Nat) : flipN (flipN p f o t) f o t = p := eq_of_bits fun j => by
  rw [bit_flip, bit_flip]
  cases bit p j <;> cases (decide (f = j) || decide (o = j) || decide (t = j)) <;> rfl
theorem part_flip {p z f o t : Nat} (h : Part p z) (hf : bit z f = true) (ho : bit z o = true) (ht : bit z t = true) : Part (flipN p f o t) z := part_of fun j hj => by
  rw [bit_flip] at hj
  by_cases j1 : f = j
  · subst j1; exact hf
  · by_cases j2 : o = j
    · subst j2; exact ho
    · by_cases j3 : t = j
      · subst j3; exact ht
      · simp [j1, j2, j3] at hj; exact h.bit hj
theorem aft_flip {p f o t : Nat} (h : befN p f o t = true) : aftN (flipN p f o t) f o t = true := by
  simp only [befN, Bool.and_eq_true, Bool.not_eq_true'] at h
  simp [aftN, bit_flip, h.1.1, h.1.2, h.2]
theorem bef_flip {p f o t : Nat} (h : aftN p f o t = true) : befN (flipN p f o t) f o t = true := by
  simp only [aftN, Bool.and_eq_true, Bool.not_eq_true'] at h
  simp [befN, bit_flip, h.1.1, h.1.2, h.2]
theorem not_aft {p f o t : Nat} (h : befN p f o t = true) : aftN p f o t = false := by
  simp only [befN, Bool.and_eq_true, Bool.not_eq_true'] at h
  simp [aftN, h.2]
theorem pc_put {p k : Nat} (hb : bit p k = false) : ∀ n, k < n → pc n (putB p k) = pc n p + 1 := by
  have low : ∀ n, n ≤ k → pc n (putB p k) = pc n p := by
    intro n
    induction n with
    | zero => intro _; rfl
    | succ n ih =>
      intro hn
      rw [pc_next, pc_next, ih (by omega), bit_put]
      simp [show ¬ k = n by omega]
  intro n
  induction n with
  | zero => intro h; omega
  | succ n ih =>
    intro hn
    rw [pc_next, pc_next, bit_put]
    by_cases e : k = n
    · subst e; rw [low k (Nat.le_refl _), hb]; simp
    · rw [ih (by omega)]; simp [e]; omega
theorem pc_drop {p k n : Nat} (hb : bit p k = true) (hn : k < n) : pc n (dropB p k) + 1 = pc n p := by
  have h := pc_put (p := dropB p k) (k := k) (by rw [bit_drop]; simp) n hn
  rw [put_drop, put_yes hb] at h
  exact h.symm
/-- A jump removes one peg. -/
theorem pc_flip {p f o t n : Nat} (h1 : f ≠ o) (h2 : f ≠ t) (h3 : o ≠ t) (hf : f < n) (ho : o < n) (ht : t < n) (h : befN p f o t = true) : pc n (flipN p f o t) + 1 = pc n p := by
  simp only [befN, Bool.and_eq_true, Bool.not_eq_true'] at h
  have e : flipN p f o t = putB (dropB (dropB p f) o) t := eq_of_bits fun j => by
    rw [bit_flip, bit_put, bit_drop, bit_drop]
    by_cases j1 : f = j
    · subst j1; simp [h.1.1, h2.symm]
    · by_cases j2 : o = j
      · subst j2; simp [h.1.2, h3.symm]
      · by_cases j3 : t = j
        · subst j3; simp [h.2]
        · simp [j1, j2, j3]
  have a1 := pc_drop h.1.1 hf
  have a2 := pc_drop (p := dropB p f) (k := o) (n := n) (by rw [bit_drop]; simp [h.1.2, h1]) ho
  have a3 := pc_put (p := dropB (dropB p f) o) (k := t) (by rw [bit_drop, bit_drop]; simp [h.2]) n ht
  rw [e]
  omega

/-! lines as triples of integers -/
def befL (P : Int) (l : Ln) : Bool := befN P.toNat l.1.toNat l.2.1.toNat l.2.2.toNat
def aftL (P : Int) (l : Ln) : Bool := aftN P.toNat l.1.toNat l.2.1.toNat l.2.2.toNat
def flipL (P : Int) (l : Ln) : Int := (flipN P.toNat l.1.toNat l.2.1.toNat l.2.2.toNat : Nat)
/-- What is told of a line of a board. -/
structure LnAt (a b z : Nat) (l : Ln) (f o t : Nat) : Prop where
  eq : l = ((f : Int), (o : Int), (t : Int))
  fN : f < a * b
  oN : o < a * b
  tN : t < a * b
  fo : f ≠ o
  ft : f ≠ t
  ot : o ≠ t
  bf : bit z f = true
  bo : bit z o = true
  bt : bit z t = true
theorem isLine.at {a b z : Nat} {l : Ln} (ha : 0 < a) (h : isLine a b z l) : ∃ f o t, LnAt a b z l f o t := by
  obtain ⟨-, m1, m2, m3⟩ := h.mid ha
  obtain ⟨k, o, t, d, hd, hk, hz, h1, h2, rfl⟩ := h
  have ho := stepN_lt ha hk h1
  simp only at m1 m2 m3
  exact ⟨k, o, t, rfl, hk, ho, stepN_lt ha ho h2, by omega, by omega, by omega, hz, (stepN_some h1).2, (stepN_some h2).2⟩
theorem mem_at {a b N z : Nat} (hN : a * b = N) (ha : 0 < a) {l : Ln} (h : l ∈ linesOf a b z (bitsOf N z)) : ∃ f o t, LnAt a b z l f o t := ((mem_lines hN).1 h).at ha
/-- A line is that between its ends. -/
theorem betw_is {a b N z : Nat} (hN : a * b = N) (ha : 0 < a) (l : Ln) : (betwL (linesOf a b z (bitsOf N z)) l.1 l.2.2 == some l) = (linesOf a b z (bitsOf N z)).contains l := by
  cases hc : (linesOf a b z (bitsOf N z)).contains l
  · rw [beq_eq_false_iff_ne]
    intro e
    have := List.mem_of_find?_eq_some e
    rw [← List.contains_iff_mem] at this
    rw [this] at hc; cases hc
  · rw [List.contains_iff_mem] at hc
    rw [betw_self hN ha hc]; simp
end Go.Proofs.Ytkenlighpelhiaa

namespace Go.Proofs.Ytkenlighpelhiaa
open Go.RowKit
set_option linter.unusedVariables false
set_option linter.unusedSimpArgs false
theorem lineM_lt {f o t : Nat} (hf : f < 49) (ho : o < 49) (ht : t < 49) : lineM f o t < 562949953421312 := by
  have p := fun {k : Nat} (h : k < 49) => (Nat.pow_lt_pow_right (by decide : 1 < 2) h : 2 ^ k < 2 ^ 49)
  exact Nat.or_lt_two_pow (Nat.or_lt_two_pow (p hf) (p ho)) (p ht)
theorem flipN_lt {p f o t : Nat} (hp : p < 562949953421312) (hf : f < 49) (ho : o < 49) (ht : t < 49) : flipN p f o t < 562949953421312 :=
  Nat.xor_lt_two_pow (n := 49) hp (lineM_lt hf ho ht)
theorem xor63 {a b : Nat} (ha : a < 9223372036854775808) (hb : b < 9223372036854775808) : bits .xor .i64 a b = ((a ^^^ b : Nat) : Int) := by
  show IntKind.i64.wrap ((BitVec.ofInt 64 a ^^^ BitVec.ofInt 64 b).toNat : Nat) = _
  rw [BitVec.ofInt_natCast, BitVec.ofInt_natCast, BitVec.toNat_xor, BitVec.toNat_ofNat, BitVec.toNat_ofNat, Nat.mod_eq_of_lt (show a < 2 ^ 64 by omega), Nat.mod_eq_of_lt (show b < 2 ^ 64 by omega)]
  have h2 : a ^^^ b < 2 ^ 63 := Nat.xor_lt_two_pow ha hb
  exact wrap63 _ (by omega) (by omega)
/-- A board and a line in the first two blocks. -/
def Bx2 (W H Z f o t : Int) (w0 w : World) : Prop := Box w0.heap.size W H Z w0 w ∧ Box (w0.heap.size + 1) f o t w0 w
theorem Bx2.later {W H Z f o t : Int} {w0 w w' : World} (h : Bx2 W H Z f o t w0 w) (hb : Below w.heap.size w w') : Bx2 W H Z f o t w0 w' := ⟨h.1.later hb, h.2.later hb⟩
theorem bx2_new (W H Z f o t : Int) (T T' : TypeId) (w : World) : Bx2 W H Z f o t w ((w.alloc (.cells #[.int .i64 W, .int .i64 H, .int .i64 Z] T)).alloc (.cells #[.int .i64 f, .int .i64 o, .int .i64 t] T')) := by
  have h1 := box_newT T W H Z w
  have h2 := box_newT T' f o t (w.alloc (.cells #[.int .i64 W, .int .i64 H, .int .i64 Z] T))
  have hs : (w.alloc (.cells #[.int .i64 W, .int .i64 H, .int .i64 Z] T)).heap.size = w.heap.size + 1 := by simp
  have h3 := h1.later ((Below.refl _ _).alloc (Nat.le_refl _) (.cells #[.int .i64 f, .int .i64 o, .int .i64 t] T'))
  rw [hs] at h2
  exact ⟨h3, h2.1, h2.2.1, h2.2.2.1, h2.2.2.2.1, h3.2.2.2.2⟩
set_option maxRecDepth 100000 in
theorem implBef (p f o t : Nat) (hf : f < 49) (ho : o < 49) (ht : t < 49) (w : World) : Calls Try.prog 88 #[.int .i64 p, .agg #[.int .i64 f, .int .i64 o, .int .i64 t]] w (QB (befN p f o t) w) := by
  have C1 := Lib.hid (fun w => isPeg p f hf w)
  have C2 := Lib.hid (fun w => isPeg p o ho w)
  have C3 := Lib.hid (fun w => isPeg p t ht w)
  unfold befN
  generalize bit p f = b1 at *
  generalize bit p o = b2 at *
  generalize bit p t = b3 at *
  cases b1
  · go_enter Try.func88, Try.ntmps88
    go_wp2_with fail
    have B0 := Lib.hid (box_newT 47 f o t w)
    generalize w.alloc (.cells #[.int .i64 (f : Int), .int .i64 (o : Int), .int .i64 (t : Int)] 47) = W1 at *
    obtain ⟨c0, c1, c2, hlt, hb1⟩ := B0.out
    go_wp2_with fail
    refine (C1.out _).mono ?_
    rintro e w1 ⟨rfl, rfl⟩
    go_wp2_with fail
    go_ret
    exact ⟨rfl, hb1⟩
  · cases b2
    · go_enter Try.func88, Try.ntmps88
      go_wp2_with fail
      have B0 := Lib.hid (box_newT 47 f o t w)
      generalize w.alloc (.cells #[.int .i64 (f : Int), .int .i64 (o : Int), .int .i64 (t : Int)] 47) = W1 at *
      obtain ⟨c0, c1, c2, hlt, hb1⟩ := B0.out
      go_wp2_with fail
      refine (C1.out _).mono ?_
      rintro e w1 ⟨rfl, rfl⟩
      go_wp2_with fail
      refine (C2.out _).mono ?_
      rintro e w1 ⟨rfl, rfl⟩
      go_wp2_with fail
      go_ret
      exact ⟨rfl, hb1⟩
    · go_enter Try.func88, Try.ntmps88
      go_wp2_with fail
      have B0 := Lib.hid (box_newT 47 f o t w)
      generalize w.alloc (.cells #[.int .i64 (f : Int), .int .i64 (o : Int), .int .i64 (t : Int)] 47) = W1 at *
      obtain ⟨c0, c1, c2, hlt, hb1⟩ := B0.out
      go_wp2_with fail
      refine (C1.out _).mono ?_
      rintro e w1 ⟨rfl, rfl⟩
      go_wp2_with fail
      refine (C2.out _).mono ?_
      rintro e w1 ⟨rfl, rfl⟩
      go_wp2_with fail
      refine (C3.out _).mono ?_
      rintro e w1 ⟨rfl, rfl⟩
      go_wp2_with fail
      go_ret
      exact ⟨rfl, hb1⟩
set_option maxRecDepth 100000 in
theorem implAft (p f o t : Nat) (hf : f < 49) (ho : o < 49) (ht : t < 49) (w : World) : Calls Try.prog 33 #[.int .i64 p, .agg #[.int .i64 f, .int .i64 o, .int .i64 t]] w (QB (aftN p f o t) w) := by
  have C1 := Lib.hid (fun w => isPeg p f hf w)
  have C2 := Lib.hid (fun w => isPeg p o ho w)
  have C3 := Lib.hid (fun w => isPeg p t ht w)
  unfold aftN
  generalize bit p f = b1 at *
  generalize bit p o = b2 at *
  generalize bit p t = b3 at *
  cases b3
  · go_enter Try.func33, Try.ntmps33
    go_wp2_with fail
    have B0 := Lib.hid (box_newT 47 f o t w)
    generalize w.alloc (.cells #[.int .i64 (f : Int), .int .i64 (o : Int), .int .i64 (t : Int)] 47) = W1 at *
    obtain ⟨c0, c1, c2, hlt, hb1⟩ := B0.out
    go_wp2_with fail
    refine (C3.out _).mono ?_
    rintro e w1 ⟨rfl, rfl⟩
    go_wp2_with fail
    go_ret
    exact ⟨rfl, hb1⟩
  · cases b1
    · go_enter Try.func33, Try.ntmps33
      go_wp2_with fail
      have B0 := Lib.hid (box_newT 47 f o t w)
      generalize w.alloc (.cells #[.int .i64 (f : Int), .int .i64 (o : Int), .int .i64 (t : Int)] 47) = W1 at *
      obtain ⟨c0, c1, c2, hlt, hb1⟩ := B0.out
      go_wp2_with fail
      refine (C3.out _).mono ?_
      rintro e w1 ⟨rfl, rfl⟩
      go_wp2_with fail
      refine (C1.out _).mono ?_
      rintro e w1 ⟨rfl, rfl⟩
      go_wp2_with fail
      refine (C2.out _).mono ?_
      rintro e w1 ⟨rfl, rfl⟩
      go_wp2_with fail
      go_ret
      exact ⟨rfl, hb1⟩
    · go_enter Try.func33, Try.ntmps33
      go_wp2_with fail
      have B0 := Lib.hid (box_newT 47 f o t w)
      generalize w.alloc (.cells #[.int .i64 (f : Int), .int .i64 (o : Int), .int .i64 (t : Int)] 47) = W1 at *
      obtain ⟨c0, c1, c2, hlt, hb1⟩ := B0.out
      go_wp2_with fail
      refine (C3.out _).mono ?_
      rintro e w1 ⟨rfl, rfl⟩
      go_wp2_with fail
      refine (C1.out _).mono ?_
      rintro e w1 ⟨rfl, rfl⟩
      go_wp2_with fail
      go_ret
      exact ⟨rfl, hb1⟩
set_option maxRecDepth 100000 in
theorem specBits (f o t : Nat) (hf : f < 49) (ho : o < 49) (ht : t < 49) (w : World) : Calls Try.prog 60 #[.agg #[.int .i64 f, .int .i64 o, .int .i64 t]] w (QI (lineM f o t : Nat) w) := by
  have hm := lineM_lt hf ho ht
  obtain ⟨q1, e1, n1, l1, u1⟩ := pow_nat f hf
  obtain ⟨q2, e2, n2, l2, u2⟩ := pow_nat o ho
  obtain ⟨q3, e3, n3, l3, u3⟩ := pow_nat t ht
  have h12 : q1 ||| q2 < 2 ^ 63 := Nat.or_lt_two_pow (by omega) (by omega)
  have hor1 := or63 (a := q1) (b := q2) (by omega) (by omega)
  have hor2 := or63 (a := q1 ||| q2) (b := q3) h12 (by omega)
  rw [show q1 ||| q2 ||| q3 = lineM f o t by rw [lineM, n1, n2, n3]] at hor2
  have hw1 : IntKind.i64.wrap (q1 : Int) = (q1 : Int) := IntWalk.i64_in _ (by omega)
  have hw2 : IntKind.i64.wrap (q2 : Int) = (q2 : Int) := IntWalk.i64_in _ (by omega)
  have hw3 : IntKind.i64.wrap (q3 : Int) = (q3 : Int) := IntWalk.i64_in _ (by omega)
  generalize q1 ||| q2 = r at *
  generalize lineM f o t = m at *
  clear n1 n2 n3
  go_enter Try.func60, Try.ntmps60
  go_wp2_with fail
  have B0 := Lib.hid (box_newT 47 f o t w)
  generalize w.alloc (.cells #[.int .i64 (f : Int), .int .i64 (o : Int), .int .i64 (t : Int)] 47) = W1 at *
  refine wp_region_script (by kernel_rfl) (by kernel_rfl) ?_
  refine Script.load (i := 0) (v := ?_) rfl (by kernel_rfl) (by kernel_rfl) (fun _ _ _ h => h) (by kernel_rfl) ?_ ?_
  rotate_left
  · (intro wS hSw; obtain ⟨c0, c1, c2, -, -⟩ := B0.out.later (After.trans (After.drew (After.refl _)) hSw); go_simp; try with_reducible rfl)
  try simp only [Act.put, List.getElem_toArray, List.getElem_cons_succ, List.getElem_cons_zero, List.setIfInBounds_toArray, List.set_cons_zero, List.set_cons_succ]
  refine Script.load (i := 1) (v := ?_) rfl (by kernel_rfl) (by kernel_rfl) (fun _ _ _ h => h) (by kernel_rfl) ?_ ?_
  rotate_left
  · (intro wS hSw; obtain ⟨c0, c1, c2, -, -⟩ := B0.out.later (After.trans (After.drew (After.refl _)) hSw); go_simp; try with_reducible rfl)
  try simp only [Act.put, List.getElem_toArray, List.getElem_cons_succ, List.getElem_cons_zero, List.setIfInBounds_toArray, List.set_cons_zero, List.set_cons_succ]
  refine Script.load (i := 2) (v := ?_) rfl (by kernel_rfl) (by kernel_rfl) (fun _ _ _ h => h) (by kernel_rfl) ?_ ?_
  rotate_left
  · (intro wS hSw; obtain ⟨c0, c1, c2, -, -⟩ := B0.out.later (After.trans (After.drew (After.refl _)) hSw); go_simp; try with_reducible rfl)
  try simp only [Act.put, List.getElem_toArray, List.getElem_cons_succ, List.getElem_cons_zero, List.setIfInBounds_toArray, List.set_cons_zero, List.set_cons_succ]
  refine Script.load (i := 3) (v := ?_) rfl (by kernel_rfl) (by kernel_rfl) (fun _ _ _ h => h) (by kernel_rfl) ?_ ?_
  rotate_left
  · (intro wS hSw; obtain ⟨c0, c1, c2, -, -⟩ := B0.out.later (After.trans (After.drew (After.refl _)) hSw); go_simp; try with_reducible rfl)
  try simp only [Act.put, List.getElem_toArray, List.getElem_cons_succ, List.getElem_cons_zero, List.setIfInBounds_toArray, List.set_cons_zero, List.set_cons_succ]
  refine Script.load (i := 4) (v := ?_) rfl (by kernel_rfl) (by kernel_rfl) (fun _ _ _ h => h) (by kernel_rfl) ?_ ?_
  rotate_left
  · (intro wS hSw; obtain ⟨c0, c1, c2, -, -⟩ := B0.out.later (After.trans (After.drew (After.refl _)) hSw); go_simp; try with_reducible rfl)
  try simp only [Act.put, List.getElem_toArray, List.getElem_cons_succ, List.getElem_cons_zero, List.setIfInBounds_toArray, List.set_cons_zero, List.set_cons_succ]
  refine Script.load (i := 5) (v := ?_) rfl (by kernel_rfl) (by kernel_rfl) (fun _ _ _ h => h) (by kernel_rfl) ?_ ?_
  rotate_left
  · (intro wS hSw; obtain ⟨c0, c1, c2, -, -⟩ := B0.out.later (After.trans (After.drew (After.refl _)) hSw); go_simp; try with_reducible rfl)
  try simp only [Act.put, List.getElem_toArray, List.getElem_cons_succ, List.getElem_cons_zero, List.setIfInBounds_toArray, List.set_cons_zero, List.set_cons_succ]
  refine Script.load (i := 6) (v := ?_) rfl (by kernel_rfl) (by kernel_rfl) (fun _ _ _ h => h) (by kernel_rfl) ?_ ?_
  rotate_left
  · (intro wS hSw; obtain ⟨c0, c1, c2, -, -⟩ := B0.out.later (After.trans (After.drew (After.refl _)) hSw); go_simp; try with_reducible rfl)
  try simp only [Act.put, List.getElem_toArray, List.getElem_cons_succ, List.getElem_cons_zero, List.setIfInBounds_toArray, List.set_cons_zero, List.set_cons_succ]
  refine Script.load (i := 7) (v := ?_) rfl (by kernel_rfl) (by kernel_rfl) (fun _ _ _ h => h) (by kernel_rfl) ?_ ?_
  rotate_left
  · (intro wS hSw; obtain ⟨c0, c1, c2, -, -⟩ := B0.out.later (After.trans (After.drew (After.refl _)) hSw); go_simp; try with_reducible rfl)
  try simp only [Act.put, List.getElem_toArray, List.getElem_cons_succ, List.getElem_cons_zero, List.setIfInBounds_toArray, List.set_cons_zero, List.set_cons_succ]
  refine Script.load (i := 8) (v := ?_) rfl (by kernel_rfl) (by kernel_rfl) (fun _ _ _ h => h) (by kernel_rfl) ?_ ?_
  rotate_left
  · (intro wS hSw; obtain ⟨c0, c1, c2, -, -⟩ := B0.out.later (After.trans (After.drew (After.refl _)) hSw); go_simp; try with_reducible rfl)
  try simp only [Act.put, List.getElem_toArray, List.getElem_cons_succ, List.getElem_cons_zero, List.setIfInBounds_toArray, List.set_cons_zero, List.set_cons_succ]
  refine Script.load (i := 9) (v := ?_) rfl (by kernel_rfl) (by kernel_rfl) (fun _ _ _ h => h) (by kernel_rfl) ?_ ?_
  rotate_left
  · (intro wS hSw; obtain ⟨c0, c1, c2, -, -⟩ := B0.out.later (After.trans (After.drew (After.refl _)) hSw); go_simp; try with_reducible rfl)
  try simp only [Act.put, List.getElem_toArray, List.getElem_cons_succ, List.getElem_cons_zero, List.setIfInBounds_toArray, List.set_cons_zero, List.set_cons_succ]
  refine Script.load (i := 10) (v := ?_) rfl (by kernel_rfl) (by kernel_rfl) (fun _ _ _ h => h) (by kernel_rfl) ?_ ?_
  rotate_left
  · (intro wS hSw; obtain ⟨c0, c1, c2, -, -⟩ := B0.out.later (After.trans (After.drew (After.refl _)) hSw); go_simp; try with_reducible rfl)
  try simp only [Act.put, List.getElem_toArray, List.getElem_cons_succ, List.getElem_cons_zero, List.setIfInBounds_toArray, List.set_cons_zero, List.set_cons_succ]
  refine Script.load (i := 11) (v := ?_) rfl (by kernel_rfl) (by kernel_rfl) (fun _ _ _ h => h) (by kernel_rfl) ?_ ?_
  rotate_left
  · (intro wS hSw; obtain ⟨c0, c1, c2, -, -⟩ := B0.out.later (After.trans (After.drew (After.refl _)) hSw); go_simp; try with_reducible rfl)
  try simp only [Act.put, List.getElem_toArray, List.getElem_cons_succ, List.getElem_cons_zero, List.setIfInBounds_toArray, List.set_cons_zero, List.set_cons_succ]
  refine Script.done (by kernel_rfl) ?_
  intro wD hD hG
  have B1 := Lib.hid (B0.out.later (After.trans (After.drew (After.refl _)) hD))
  clear hD hG B0
  go_wp2_with fail
  go_ret
  exact ⟨rfl, B1.out.2.2.2.2⟩
set_option maxRecDepth 100000 in
theorem implFlip (p f o t : Nat) (hp : p < 562949953421312) (hf : f < 49) (ho : o < 49) (ht : t < 49) (w : World) : Calls Try.prog 32 #[.int .i64 p, .agg #[.int .i64 f, .int .i64 o, .int .i64 t]] w (QI (flipN p f o t : Nat) w) := by
  have hm := lineM_lt hf ho ht
  obtain ⟨q1, e1, n1, l1, u1⟩ := pow_nat f hf
  obtain ⟨q2, e2, n2, l2, u2⟩ := pow_nat o ho
  obtain ⟨q3, e3, n3, l3, u3⟩ := pow_nat t ht
  have h12 : q1 ||| q2 < 2 ^ 63 := Nat.or_lt_two_pow (by omega) (by omega)
  have hor1 := or63 (a := q1) (b := q2) (by omega) (by omega)
  have hor2 := or63 (a := q1 ||| q2) (b := q3) h12 (by omega)
  rw [show q1 ||| q2 ||| q3 = lineM f o t by rw [lineM, n1, n2, n3]] at hor2
  have hxor := xor63 (a := p) (b := lineM f o t) (by omega) (by omega)
  unfold flipN
  have hw1 : IntKind.i64.wrap (q1 : Int) = (q1 : Int) := IntWalk.i64_in _ (by omega)
  have hw2 : IntKind.i64.wrap (q2 : Int) = (q2 : Int) := IntWalk.i64_in _ (by omega)
  have hw3 : IntKind.i64.wrap (q3 : Int) = (q3 : Int) := IntWalk.i64_in _ (by omega)
  generalize q1 ||| q2 = r at *
  generalize lineM f o t = m at *
  generalize p ^^^ m = x at *
  clear n1 n2 n3
  go_enter Try.func32, Try.ntmps32
  go_wp2_with fail
  have B0 := Lib.hid (box_newT 47 f o t w)
  generalize w.alloc (.cells #[.int .i64 (f : Int), .int .i64 (o : Int), .int .i64 (t : Int)] 47) = W1 at *
  refine wp_region_script (by kernel_rfl) (by kernel_rfl) ?_
  refine Script.load (i := 0) (v := ?_) rfl (by kernel_rfl) (by kernel_rfl) (fun _ _ _ h => h) (by kernel_rfl) ?_ ?_
  rotate_left
  · (intro wS hSw; obtain ⟨c0, c1, c2, -, -⟩ := B0.out.later (After.trans (After.drew (After.refl _)) hSw); go_simp; try with_reducible rfl)
  try simp only [Act.put, List.getElem_toArray, List.getElem_cons_succ, List.getElem_cons_zero, List.setIfInBounds_toArray, List.set_cons_zero, List.set_cons_succ]
  refine Script.load (i := 1) (v := ?_) rfl (by kernel_rfl) (by kernel_rfl) (fun _ _ _ h => h) (by kernel_rfl) ?_ ?_
  rotate_left
  · (intro wS hSw; obtain ⟨c0, c1, c2, -, -⟩ := B0.out.later (After.trans (After.drew (After.refl _)) hSw); go_simp; try with_reducible rfl)
  try simp only [Act.put, List.getElem_toArray, List.getElem_cons_succ, List.getElem_cons_zero, List.setIfInBounds_toArray, List.set_cons_zero, List.set_cons_succ]
  refine Script.load (i := 2) (v := ?_) rfl (by kernel_rfl) (by kernel_rfl) (fun _ _ _ h => h) (by kernel_rfl) ?_ ?_
  rotate_left
  · (intro wS hSw; obtain ⟨c0, c1, c2, -, -⟩ := B0.out.later (After.trans (After.drew (After.refl _)) hSw); go_simp; try with_reducible rfl)
  try simp only [Act.put, List.getElem_toArray, List.getElem_cons_succ, List.getElem_cons_zero, List.setIfInBounds_toArray, List.set_cons_zero, List.set_cons_succ]
  refine Script.load (i := 3) (v := ?_) rfl (by kernel_rfl) (by kernel_rfl) (fun _ _ _ h => h) (by kernel_rfl) ?_ ?_
  rotate_left
  · (intro wS hSw; obtain ⟨c0, c1, c2, -, -⟩ := B0.out.later (After.trans (After.drew (After.refl _)) hSw); go_simp; try with_reducible rfl)
  try simp only [Act.put, List.getElem_toArray, List.getElem_cons_succ, List.getElem_cons_zero, List.setIfInBounds_toArray, List.set_cons_zero, List.set_cons_succ]
  refine Script.load (i := 4) (v := ?_) rfl (by kernel_rfl) (by kernel_rfl) (fun _ _ _ h => h) (by kernel_rfl) ?_ ?_
  rotate_left
  · (intro wS hSw; obtain ⟨c0, c1, c2, -, -⟩ := B0.out.later (After.trans (After.drew (After.refl _)) hSw); go_simp; try with_reducible rfl)
  try simp only [Act.put, List.getElem_toArray, List.getElem_cons_succ, List.getElem_cons_zero, List.setIfInBounds_toArray, List.set_cons_zero, List.set_cons_succ]
  refine Script.load (i := 5) (v := ?_) rfl (by kernel_rfl) (by kernel_rfl) (fun _ _ _ h => h) (by kernel_rfl) ?_ ?_
  rotate_left
  · (intro wS hSw; obtain ⟨c0, c1, c2, -, -⟩ := B0.out.later (After.trans (After.drew (After.refl _)) hSw); go_simp; try with_reducible rfl)
  try simp only [Act.put, List.getElem_toArray, List.getElem_cons_succ, List.getElem_cons_zero, List.setIfInBounds_toArray, List.set_cons_zero, List.set_cons_succ]
  refine Script.load (i := 6) (v := ?_) rfl (by kernel_rfl) (by kernel_rfl) (fun _ _ _ h => h) (by kernel_rfl) ?_ ?_
  rotate_left
  · (intro wS hSw; obtain ⟨c0, c1, c2, -, -⟩ := B0.out.later (After.trans (After.drew (After.refl _)) hSw); go_simp; try with_reducible rfl)
  try simp only [Act.put, List.getElem_toArray, List.getElem_cons_succ, List.getElem_cons_zero, List.setIfInBounds_toArray, List.set_cons_zero, List.set_cons_succ]
  refine Script.load (i := 7) (v := ?_) rfl (by kernel_rfl) (by kernel_rfl) (fun _ _ _ h => h) (by kernel_rfl) ?_ ?_
  rotate_left
  · (intro wS hSw; obtain ⟨c0, c1, c2, -, -⟩ := B0.out.later (After.trans (After.drew (After.refl _)) hSw); go_simp; try with_reducible rfl)
  try simp only [Act.put, List.getElem_toArray, List.getElem_cons_succ, List.getElem_cons_zero, List.setIfInBounds_toArray, List.set_cons_zero, List.set_cons_succ]
  refine Script.load (i := 8) (v := ?_) rfl (by kernel_rfl) (by kernel_rfl) (fun _ _ _ h => h) (by kernel_rfl) ?_ ?_
  rotate_left
  · (intro wS hSw; obtain ⟨c0, c1, c2, -, -⟩ := B0.out.later (After.trans (After.drew (After.refl _)) hSw); go_simp; try with_reducible rfl)
  try simp only [Act.put, List.getElem_toArray, List.getElem_cons_succ, List.getElem_cons_zero, List.setIfInBounds_toArray, List.set_cons_zero, List.set_cons_succ]
  refine Script.load (i := 9) (v := ?_) rfl (by kernel_rfl) (by kernel_rfl) (fun _ _ _ h => h) (by kernel_rfl) ?_ ?_
  rotate_left
  · (intro wS hSw; obtain ⟨c0, c1, c2, -, -⟩ := B0.out.later (After.trans (After.drew (After.refl _)) hSw); go_simp; try with_reducible rfl)
  try simp only [Act.put, List.getElem_toArray, List.getElem_cons_succ, List.getElem_cons_zero, List.setIfInBounds_toArray, List.set_cons_zero, List.set_cons_succ]
  refine Script.load (i := 10) (v := ?_) rfl (by kernel_rfl) (by kernel_rfl) (fun _ _ _ h => h) (by kernel_rfl) ?_ ?_
  rotate_left
  · (intro wS hSw; obtain ⟨c0, c1, c2, -, -⟩ := B0.out.later (After.trans (After.drew (After.refl _)) hSw); go_simp; try with_reducible rfl)
  try simp only [Act.put, List.getElem_toArray, List.getElem_cons_succ, List.getElem_cons_zero, List.setIfInBounds_toArray, List.set_cons_zero, List.set_cons_succ]
  refine Script.load (i := 11) (v := ?_) rfl (by kernel_rfl) (by kernel_rfl) (fun _ _ _ h => h) (by kernel_rfl) ?_ ?_
  rotate_left
  · (intro wS hSw; obtain ⟨c0, c1, c2, -, -⟩ := B0.out.later (After.trans (After.drew (After.refl _)) hSw); go_simp; try with_reducible rfl)
  try simp only [Act.put, List.getElem_toArray, List.getElem_cons_succ, List.getElem_cons_zero, List.setIfInBounds_toArray, List.set_cons_zero, List.set_cons_succ]
  refine Script.load (i := 12) (v := ?_) rfl (by kernel_rfl) (by kernel_rfl) (fun _ _ _ h => h) (by kernel_rfl) ?_ ?_
  rotate_left
  · (intro wS hSw; obtain ⟨c0, c1, c2, -, -⟩ := B0.out.later (After.trans (After.drew (After.refl _)) hSw); go_simp; try with_reducible rfl)
  try simp only [Act.put, List.getElem_toArray, List.getElem_cons_succ, List.getElem_cons_zero, List.setIfInBounds_toArray, List.set_cons_zero, List.set_cons_succ]
  refine Script.load (i := 13) (v := ?_) rfl (by kernel_rfl) (by kernel_rfl) (fun _ _ _ h => h) (by kernel_rfl) ?_ ?_
  rotate_left
  · (intro wS hSw; obtain ⟨c0, c1, c2, -, -⟩ := B0.out.later (After.trans (After.drew (After.refl _)) hSw); go_simp; try with_reducible rfl)
  try simp only [Act.put, List.getElem_toArray, List.getElem_cons_succ, List.getElem_cons_zero, List.setIfInBounds_toArray, List.set_cons_zero, List.set_cons_succ]
  refine Script.done (by kernel_rfl) ?_
  intro wD hD hG
  have B1 := Lib.hid (B0.out.later (After.trans (After.drew (After.refl _)) hD))
  clear hD hG B0
  go_wp2_with fail
  go_ret
  exact ⟨rfl, B1.out.2.2.2.2⟩
end Go.Proofs.Ytkenlighpelhiaa

namespace Go.Proofs.Ytkenlighpelhiaa
open Go.RowKit
set_option linter.unusedVariables false
set_option linter.unusedSimpArgs false
theorem line_hole {a b N z : Nat} (h : Ok (a : Int) (b : Int) N z) {f o t : Int} (hl : (linesOf a b z (bitsOf N z)).contains (f, o, t) = true) : holeB a b z f = true := by
  obtain ⟨hN, ha, -⟩ := h.nat
  rw [List.contains_iff_mem] at hl
  obtain ⟨f', o', t', L⟩ := mem_at hN ha hl
  have e := L.eq
  simp only [Prod.mk.injEq] at e
  rw [e.1, holeB_in h (by rw [← hN]; exact L.fN)]
  exact L.bf
theorem line_yes {a b N z k d : Nat} (hN : a * b = N) (hd : d < 4) (hk : k < N) (hb : bit z k = true) {o t : Int} (h : lineN a b z k d = some ((k : Int), o, t)) : (linesOf a b z (bitsOf N z)).contains ((k : Int), o, t) = true := by
  rw [List.contains_iff_mem, mem_lines hN]
  obtain ⟨o', t', h1, h2, h3⟩ := lineN_some h
  exact ⟨k, o', t', d, hd, by rw [hN]; exact hk, hb, h1, h2, h3⟩
theorem line_no {a b N z k : Nat} (hN : a * b = N) {o t : Int} (h : ∀ d, d < 4 → lineN a b z k d ≠ some ((k : Int), o, t)) : (linesOf a b z (bitsOf N z)).contains ((k : Int), o, t) = false := by
  rw [← Bool.not_eq_true, List.contains_iff_mem, mem_lines hN]
  rintro ⟨k', o', t', d, hd, hk, hb, h1, h2, h3⟩
  simp only [Prod.mk.injEq] at h3
  have e : k = k' := by omega
  subst e
  refine h d hd ?_
  rw [h3.2.1, h3.2.2]
  exact lineN_yes h1 h2
theorem betw_lns (W H Z : Int) (l : Ln) : (betwL (lnsOf W H Z) l.1 l.2.2 == some l) = (lnsOf W H Z).contains l := by
  cases h : okB W H Z
  · rw [lnsOf_no h]; rfl
  · obtain ⟨a, b, N, z, rfl, rfl, rfl, ho⟩ := okNat h
    obtain ⟨hN, ha, -⟩ := ho.nat
    rw [lnsOf_ok ho]; exact betw_is hN ha l
end Go.Proofs.Ytkenlighpelhiaa

namespace Go.Proofs.Ytkenlighpelhiaa
open Go.RowKit
set_option linter.unusedVariables false
set_option linter.unusedSimpArgs false
/-- Whether there is a jump on a line. -/
def jumpB (W H Z P : Int) (l : Ln) : Bool := posB W H Z P && (lnsOf W H Z).contains l && befL P l
def doB (W H Z P : Int) (l : Ln) : Int × Bool := if jumpB W H Z P l = true then (flipL P l, true) else (P, false)
theorem posB_ok {W H Z P : Int} (h : posB W H Z P = true) : okB W H Z = true := by
  obtain ⟨N, z, p, rfl, rfl, ho, -⟩ := pos_yes h
  exact ho.ok
/-- What is told of a position and a line that are valid. -/
structure Set5 (W H Z P : Int) (l : Ln) (a b N z p f o t : Nat) : Prop where
  eW : W = a
  eH : H = b
  eZ : Z = z
  eP : P = p
  ok : Ok (a : Int) (b : Int) N z
  part : Part p z
  at' : LnAt a b z l f o t
theorem set5 {W H Z P : Int} {l : Ln} (hp : posB W H Z P = true) (hl : (lnsOf W H Z).contains l = true) : ∃ a b N z p f o t, Set5 W H Z P l a b N z p f o t := by
  obtain ⟨N, z, p, rfl, rfl, ho, hpart⟩ := pos_yes hp
  obtain ⟨a, b, N', z', rfl, rfl, hz, ho'⟩ := okNat ho.ok
  obtain ⟨hN, ha, -⟩ := ho.nat
  rw [lnsOf_ok ho, List.contains_iff_mem] at hl
  obtain ⟨f, o, t, L⟩ := mem_at hN ha hl
  exact ⟨a, b, N, z, p, f, o, t, rfl, rfl, rfl, rfl, ho, hpart, L⟩
theorem Set5.bounds {W H Z P : Int} {l : Ln} {a b N z p f o t : Nat} (h : Set5 W H Z P l a b N z p f o t) : p < 562949953421312 ∧ f < 49 ∧ o < 49 ∧ t < 49 := by
  obtain ⟨hN, -⟩ := h.ok.nat
  have := h.ok.n49
  have h1 := h.at'.fN; have h2 := h.at'.oN; have h3 := h.at'.tN
  rw [hN] at h1 h2 h3
  exact ⟨h.part.big h.ok, by omega, by omega, by omega⟩
theorem Set5.bef {W H Z P : Int} {l : Ln} {a b N z p f o t : Nat} (h : Set5 W H Z P l a b N z p f o t) : befL P l = befN p f o t := by rw [h.eP, h.at'.eq]; rfl
theorem Set5.aft {W H Z P : Int} {l : Ln} {a b N z p f o t : Nat} (h : Set5 W H Z P l a b N z p f o t) : aftL P l = aftN p f o t := by rw [h.eP, h.at'.eq]; rfl
theorem Set5.flip {W H Z P : Int} {l : Ln} {a b N z p f o t : Nat} (h : Set5 W H Z P l a b N z p f o t) : flipL P l = (flipN p f o t : Nat) := by rw [h.eP, h.at'.eq]; rfl
theorem mem_contains {α : Type} [BEq α] [LawfulBEq α] {l : List α} {x : α} (h : x ∈ l) : l.contains x = true := by rw [List.contains_iff_mem]; exact h
end Go.Proofs.Ytkenlighpelhiaa

namespace Go.Proofs.Ytkenlighpelhiaa
open Go.RowKit
set_option linter.unusedVariables false
set_option linter.unusedSimpArgs false
/-- Whether there is a jump that can be undone on a line. -/
def undoB (W H Z P : Int) (l : Ln) : Bool := posB W H Z P && (lnsOf W H Z).contains l && aftL P l
def backB (W H Z P : Int) (l : Ln) : Int × Bool := if undoB W H Z P l = true then (flipL P l, true) else (P, false)

end Go.Proofs.Ytkenlighpelhiaa

namespace Go.Proofs.Ytkenlighpelhiaa
open Go.RowKit
set_option linter.unusedVariables false
set_option linter.unusedSimpArgs false
theorem flip_big {W H Z P : Int} {l : Ln} {a b N z p f o t : Nat} (h : Set5 W H Z P l a b N z p f o t) : flipN p f o t < 562949953421312 := by
  obtain ⟨h1, h2, h3, h4⟩ := h.bounds
  exact flipN_lt h1 h2 h3 h4
theorem jump_set {W H Z P : Int} {l : Ln} (h : jumpB W H Z P l = true) : ∃ a b N z p f o t, Set5 W H Z P l a b N z p f o t ∧ befN p f o t = true := by
  simp only [jumpB, Bool.and_eq_true] at h
  obtain ⟨a, b, N, z, p, f, o, t, S⟩ := set5 h.1.1 h.1.2
  exact ⟨a, b, N, z, p, f, o, t, S, by rw [← S.bef]; exact h.2⟩
theorem do_yes {W H Z P : Int} {l : Ln} (h : jumpB W H Z P l = true) : doB W H Z P l = (flipL P l, true) := by simp [doB, h]
theorem do_no {W H Z P : Int} {l : Ln} (h : jumpB W H Z P l = false) : doB W H Z P l = (P, false) := by simp [doB, h]
/-- The jumps of a position. -/
def jumpsL (W H Z P : Int) : List Ln := if posB W H Z P = true then (lnsOf W H Z).filter (befL P) else []
theorem jumpsL_le (W H Z P : Int) : (jumpsL W H Z P).length ≤ 196 := by
  unfold jumpsL
  split
  · exact Nat.le_trans (List.length_filter_le _ _) (lnsOf_le W H Z)
  · simp
theorem jumpsL_mem {W H Z P : Int} {l : Ln} : l ∈ jumpsL W H Z P ↔ jumpB W H Z P l = true := by
  unfold jumpsL jumpB
  cases posB W H Z P
  · simp
  · simp
end Go.Proofs.Ytkenlighpelhiaa

namespace Go.Proofs.Ytkenlighpelhiaa
open Go.RowKit
set_option linter.unusedVariables false
set_option linter.unusedSimpArgs false
theorem undo_set {W H Z P : Int} {l : Ln} (h : undoB W H Z P l = true) : ∃ a b N z p f o t, Set5 W H Z P l a b N z p f o t ∧ aftN p f o t = true := by
  simp only [undoB, Bool.and_eq_true] at h
  obtain ⟨a, b, N, z, p, f, o, t, S⟩ := set5 h.1.1 h.1.2
  exact ⟨a, b, N, z, p, f, o, t, S, by rw [← S.aft]; exact h.2⟩
theorem back_yes {W H Z P : Int} {l : Ln} (h : undoB W H Z P l = true) : backB W H Z P l = (flipL P l, true) := by simp [backB, h]
theorem back_no {W H Z P : Int} {l : Ln} (h : undoB W H Z P l = false) : backB W H Z P l = (P, false) := by simp [backB, h]
/-- The undone jumps of a position. -/
def undosL (W H Z P : Int) : List Ln := if posB W H Z P = true then (lnsOf W H Z).filter (aftL P) else []
theorem undosL_le (W H Z P : Int) : (undosL W H Z P).length ≤ 196 := by
  unfold undosL
  split
  · exact Nat.le_trans (List.length_filter_le _ _) (lnsOf_le W H Z)
  · simp
theorem undosL_mem {W H Z P : Int} {l : Ln} : l ∈ undosL W H Z P ↔ undoB W H Z P l = true := by
  unfold undosL undoB
  cases posB W H Z P
  · simp
  · simp
end Go.Proofs.Ytkenlighpelhiaa

namespace Go.Proofs.Ytkenlighpelhiaa
open Go.RowKit
set_option linter.unusedVariables false
set_option linter.unusedSimpArgs false
end Go.Proofs.Ytkenlighpelhiaa

namespace Go.Proofs.Ytkenlighpelhiaa
open Go.RowKit
set_option linter.unusedVariables false
set_option linter.unusedSimpArgs false
end Go.Proofs.Ytkenlighpelhiaa
