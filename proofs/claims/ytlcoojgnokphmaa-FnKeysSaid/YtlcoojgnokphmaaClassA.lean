/- The class and the key of the program. -/
import Derived.Test.YtlcoojgnokphmaaClassMath
import Derived.Test.YtlcoojgnokphmaaPegsAll
import Derived.Test.YtlcoojgnokphmaaBoards
namespace Go.Proofs.Ytlcoojgnokphmaa
open Go.RowKit
open Go.Op
set_option linter.unusedVariables false
set_option linter.unusedSimpArgs false
/-- An array of small numbers in a block of its own. -/
def Arr (b : Nat) (T : TypeId) (c : List Nat) (w : World) : Prop := w.heap[b]? = some (.cells (Ints c).toArray T (0, 0))
theorem Arr.cell {b : Nat} {T : TypeId} {c : List Nat} {w : World} (h : Arr b T c w) {j v : Nat} (hj : c[j]? = some v) : w.cell? ⟨b, j, none⟩ = some (.int .i64 v) := by
  rw [cell_of_row w b _ _ _ _ h]
  simp [Ints, hj]
theorem Arr.frozen {b : Nat} {T : TypeId} {c : List Nat} {w : World} (h : Arr b T c w) (j : Nat) : w.frozen? ⟨b, j, none⟩ = false := frozen_of_row w b j _ _ h
theorem Arr.set {b : Nat} {T : TypeId} {c : List Nat} {w : World} (h : Arr b T c w) (j u : Nat) : Arr b T (c.set j u) (w.setCell ⟨b, j, none⟩ (.int .i64 u)) := by
  have := heap_setCell_same w b j _ T (.int .i64 u) h
  unfold Arr
  rw [this]
  simp [Ints]
theorem Arr.later {b : Nat} {T : TypeId} {c : List Nat} {w w' : World} {B : Nat} (h : Arr b T c w) (hb : Below B w w') (hB : b < B) : Arr b T c w' := row_later h hb hB
theorem Arr.lt {b : Nat} {T : TypeId} {c : List Nat} {w : World} (h : Arr b T c w) : b < w.heap.size := by
  rcases Nat.lt_or_ge b w.heap.size with h' | h'
  · exact h'
  · unfold Arr at h; rw [Array.getElem?_eq_none h'] at h; cases h
theorem Arr.other {b g j : Nat} {T : TypeId} {c : List Nat} {w : World} {v : Value} (h : Arr b T c w) (hne : g ≠ b) : Arr b T c (w.setCell ⟨g, j, none⟩ v) := (heap_setCell_other w ⟨g, j, none⟩ b v (by simpa using hne.symm)).trans h
/-- Six cells, and that they can be written. -/
theorem Arr.six {g : Nat} {T : TypeId} {a b c d e f : Nat} {w : World} (h : Arr g T [a, b, c, d, e, f] w) :
    (w.cell? ⟨g, 0, none⟩ = some (.int .i64 a) ∧ w.cell? ⟨g, 1, none⟩ = some (.int .i64 b) ∧ w.cell? ⟨g, 2, none⟩ = some (.int .i64 c) ∧ w.cell? ⟨g, 3, none⟩ = some (.int .i64 d) ∧ w.cell? ⟨g, 4, none⟩ = some (.int .i64 e) ∧ w.cell? ⟨g, 5, none⟩ = some (.int .i64 f)) ∧
    (w.frozen? ⟨g, 0, none⟩ = false ∧ w.frozen? ⟨g, 1, none⟩ = false ∧ w.frozen? ⟨g, 2, none⟩ = false ∧ w.frozen? ⟨g, 3, none⟩ = false ∧ w.frozen? ⟨g, 4, none⟩ = false ∧ w.frozen? ⟨g, 5, none⟩ = false) :=
  ⟨⟨h.cell rfl, h.cell rfl, h.cell rfl, h.cell rfl, h.cell rfl, h.cell rfl⟩, h.frozen _, h.frozen _, h.frozen _, h.frozen _, h.frozen _, h.frozen _⟩
theorem xor_one {v : Nat} (h : v ≤ 1) : bits .xor .i64 (v : Int) 1 = ((1 - v : Nat) : Int) := by
  have : v = 0 ∨ v = 1 := by omega
  rcases this with rfl | rfl <;> decide
theorem xor_dif {a b : Nat} (h : a ≤ 1) (h' : b ≤ 1) : bits .xor .i64 (a : Int) (b : Int) = ((dif a b : Nat) : Int) := by
  have h1 : a = 0 ∨ a = 1 := by omega
  have h2 : b = 0 ∨ b = 1 := by omega
  rcases h1 with rfl | rfl <;> rcases h2 with rfl | rfl <;> decide
/-- The value of a class. -/
def aggN (c : List Nat) : Value := .agg (Ints c).toArray
/-- What the two remainders of a place are, in the walk's words. -/
theorem rems {a k x y i j : Nat} (hx : k % a = x) (hy : k / a = y) (h1 : r1 a k = i) (h2 : r2 a k = j) : (x + y) % 3 = i ∧ 3 + (x + 2 * y) % 3 = j := by
  subst hx hy h1 h2; exact ⟨rfl, rfl⟩
theorem rem_facts {x y i j : Nat} (hx : x < 7) (hy : y < 49) (hi : i < 3) (hj : j < 6) (hj3 : 3 ≤ j) (e1 : (x + y) % 3 = i) (e2 : 3 + (x + 2 * y) % 3 = j) :
    ∃ s t m d : Nat, wrap64 ((x : Int) + (y : Int)) = (s : Int) ∧ (s : Int).tmod 3 = (i : Int) ∧ wrap64 (2 * (y : Int)) = (d : Int) ∧ wrap64 ((x : Int) + (d : Int)) = (t : Int) ∧ (t : Int).tmod 3 = (m : Int) ∧ wrap64 (3 + (m : Int)) = (j : Int) ∧
      (0 : Int) ≤ (i : Int) ∧ (i : Int) < 6 ∧ (0 : Int) ≤ (j : Int) ∧ (j : Int) < 6 ∧ ¬ i = j := by
  refine ⟨x + y, x + 2 * y, (x + 2 * y) % 3, 2 * y, ?_, ?_, ?_, ?_, ?_, ?_, ?_, ?_, ?_, ?_, ?_⟩
  · unfold wrap64; omega
  · rw [← e1]; rfl
  · unfold wrap64; omega
  · unfold wrap64; omega
  · rfl
  · unfold wrap64; omega
  · omega
  · omega
  · omega
  · omega
  · omega
set_option maxHeartbeats 2000000 in
set_option maxRecDepth 100000 in
theorem implClassAt {a b N z : Nat} (h : Ok (a : Int) (b : Int) N z) (p : Nat) (w : World) : Calls Try.prog 36 #[.agg #[.int .i64 a, .int .i64 b, .int .i64 z], .int .i64 p] w fun e w' => e = .returned (aggN (clsN a N p)) ∧ Below w.heap.size w w' := by
  have C3 := Lib.hid (fun w => implSize a b z w N h.wh h.n49)
  have C4 := Lib.hid (fun k w (hk : k < 49) => isPeg p k hk w)
  have C5 := Lib.hid (fun k w (hk : k ≤ 1000) => implPlace a b z k w h.w1 h.w7 hk)
  have hn := h.n49
  have ha := h.w1
  have ha7 := h.w7
  clear h
  go_enter Try.func36, Try.ntmps36
  go_wp2_with fail
  have B0 := Lib.hid (box_new a b z w)
  have hS : (w.alloc (.cells #[.int .i64 a, .int .i64 b, .int .i64 z] 25)).heap.size = w.heap.size + 1 := by simp
  generalize w.alloc (.cells #[.int .i64 a, .int .i64 b, .int .i64 z] 25) = W1 at *
  have Z1 : Hid (Arr (w.heap.size + 1) 52 [0, 0, 0, 0, 0, 0] (W1.alloc (.cells #[.int .i64 0, .int .i64 0, .int .i64 0, .int .i64 0, .int .i64 0, .int .i64 0] 52))) := by
    have := heap_alloc_new W1 (.cells #[.int .i64 0, .int .i64 0, .int .i64 0, .int .i64 0, .int .i64 0, .int .i64 0] 52)
    rw [hS] at this; exact this
  have B1 := Lib.hid (B0.out.later ((Below.refl _ _).alloc (Nat.le_refl _) (.cells #[.int .i64 0, .int .i64 0, .int .i64 0, .int .i64 0, .int .i64 0, .int .i64 0] 52)))
  have hS2 : (W1.alloc (.cells #[.int .i64 0, .int .i64 0, .int .i64 0, .int .i64 0, .int .i64 0, .int .i64 0] 52)).heap.size = w.heap.size + 1 + 1 := by simp [hS]
  generalize W1.alloc (.cells #[.int .i64 0, .int .i64 0, .int .i64 0, .int .i64 0, .int .i64 0, .int .i64 0] 52) = W2 at *
  have A2 : Hid (Arr (w.heap.size + 1 + 1) 52 (clsN a 0 p) (W2.alloc (.cells #[.int .i64 0, .int .i64 0, .int .i64 0, .int .i64 0, .int .i64 0, .int .i64 0] 52))) := by
    have := heap_alloc_new W2 (.cells #[.int .i64 0, .int .i64 0, .int .i64 0, .int .i64 0, .int .i64 0, .int .i64 0] 52)
    rw [hS2] at this; exact this
  have hb2 : Below W2.heap.size W2 (W2.alloc (.cells #[.int .i64 0, .int .i64 0, .int .i64 0, .int .i64 0, .int .i64 0, .int .i64 0] 52)) := (Below.refl _ _).alloc (Nat.le_refl _) _
  have Z2 := Lib.hid (Z1.out.later hb2 Z1.out.lt)
  have B2 := Lib.hid (B1.out.later hb2)
  clear B0 Z1 B1 hb2 hS hS2
  generalize W2.alloc (.cells #[.int .i64 0, .int .i64 0, .int .i64 0, .int .i64 0, .int .i64 0, .int .i64 0] 52) = W3 at *
  refine (C3.out _).mono ?_
  rintro e w4 ⟨rfl, hb⟩
  have Z4 := Lib.hid (Z2.out.later hb Z2.out.lt)
  have A4 := Lib.hid (A2.out.later hb A2.out.lt)
  have B4 := Lib.hid (B2.out.later hb)
  clear hb Z2 A2 B2
  go_wp2_with fail
  go_loopw [11] (fun i wr => ∃ k : Nat, k ≤ N ∧ i = .int .i64 k ∧ Hid (Arr (w.heap.size + 1) 52 [0, 0, 0, 0, 0, 0] wr) ∧ Hid (Arr (w.heap.size + 1 + 1) 52 (clsN a k p) wr) ∧ Hid (Box w.heap.size a b z w wr)) (fun i _ => N - (intOf i).toNat)
  case atStart => exact ⟨0, by omega, rfl, Z4, A4, B4⟩
  case round =>
    clear Z4 A4 B4
    obtain ⟨k, hk, rfl, HZ, HA, HB⟩ := hrel
    by_cases hkn : k < N
    · have hk49 : k < 49 := by omega
      go_wp2_with fail
      refine (C4.out k _ hk49).mono ?_
      rintro e w5 ⟨rfl, rfl⟩
      cases hbit : bit p k
      · have HC := Lib.hid (clsN_no (W := a) hbit)
        clear hbit
        go_wp2_with fail
        go_roundw
        case rel => exact ⟨k + 1, by omega, by go_num, HZ, by unfold Hid; rw [HC.out]; exact HA.out, HB⟩
        case measure => simp [intOf]; omega
      · obtain ⟨x, hx⟩ : ∃ x, k % a = x := ⟨_, rfl⟩
        obtain ⟨y, hy⟩ : ∃ y, k / a = y := ⟨_, rfl⟩
        obtain ⟨i, h1⟩ : ∃ i, r1 a k = i := ⟨_, rfl⟩
        obtain ⟨j, h2⟩ : ∃ j, r2 a k = j := ⟨_, rfl⟩
        obtain ⟨e1, e2⟩ := rems hx hy h1 h2
        have C5k : Hid (∀ w, Calls Try.prog 56 #[.agg #[.int .i64 a, .int .i64 b, .int .i64 z], .int .i64 k] w fun e w' => e = .returned (.tuple #[.int .i64 x, .int .i64 y]) ∧ Below w.heap.size w w') := by
          intro w
          have ex : ((k : Int) % (a : Int)) = (x : Int) := by rw [← hx]; exact (Int.natCast_emod k a).symm
          have ey : ((k : Int) / (a : Int)) = (y : Int) := by rw [← hy]; exact (Int.natCast_ediv k a).symm
          have := C5.out k w (by omega)
          rw [ex, ey] at this
          exact this
        have hx7 : x < 7 := by
          have h0 := Nat.mod_lt k (show a > 0 by omega)
          rw [hx] at h0; omega
        have hy49 : y < 49 := by
          have h0 := Nat.div_le_self k a
          rw [hy] at h0; omega
        obtain ⟨u, hu⟩ : ∃ u, (parC a (bitsOf k p) i).toNat = u := ⟨_, rfl⟩
        obtain ⟨v, hv⟩ : ∃ v, (parC a (bitsOf k p) j).toNat = v := ⟨_, rfl⟩
        obtain ⟨u', hu'⟩ : ∃ u', 1 - u = u' := ⟨_, rfl⟩
        obtain ⟨v', hv'⟩ : ∃ v', 1 - v = v' := ⟨_, rfl⟩
        have HC : Hid (clsN a (k + 1) p = ((clsN a k p).set i u').set j v') := by unfold Hid; rw [← hu', ← hv']; exact clsN_yes hbit h1 h2 hu hv
        have hi : i < 3 := by rw [← h1]; exact r1_lt _ _
        have hj : j < 6 := by rw [← h2]; exact r2_lt _ _
        have hj3 : 3 ≤ j := by rw [← h2]; exact r2_le _ _
        have gi : Hid ((clsN a k p)[i]? = some u) := by unfold Hid; rw [← hu]; exact clsL_get _ _ (by omega)
        have gj : Hid ((clsN a k p)[j]? = some v) := by unfold Hid; rw [← hv]; exact clsL_get _ _ hj
        have x1 := xor_one (v := u) (by rw [← hu]; exact toNat_le _)
        have x2 := xor_one (v := v) (by rw [← hv]; exact toNat_le _)
        rw [hu'] at x1
        rw [hv'] at x2
        clear hx hy h1 h2 hu hv hu' hv' hbit
        obtain ⟨s, t, m, d, m1, m2, m3, m4, m5, m6, i0, i6, j0, j6, hne⟩ := rem_facts hx7 hy49 hi hj hj3 e1 e2
        clear e1 e2 hx7 hy49 hi hj hj3
        obtain ⟨c0, c1, c2, hlt, hbw⟩ := HB.out
        go_wp2_with fail
        refine (C5k.out _).mono ?_
        rintro e w6 ⟨rfl, hb⟩
        have HZ6 := Lib.hid (HZ.out.later hb HZ.out.lt)
        have HA6 := Lib.hid (HA.out.later hb HA.out.lt)
        have HB6 := Lib.hid (HB.out.later hb)
        clear c0 c1 c2 hlt hbw hb HZ HA HB C5k
        have d1 := HA6.out.cell gi.out
        have d2 := HA6.out.frozen i
        have HA7 := Lib.hid (HA6.out.set i u')
        have d3 := HA7.out.cell (j := j) (v := v) (by rw [List.getElem?_set_ne hne]; exact gj.out)
        have d4 := HA7.out.frozen j
        have HA8 := Lib.hid (HA7.out.set j v')
        rw [← HC.out] at HA8
        go_wp2_with fail
        have HZ8 := Lib.hid ((HZ6.out.other (g := w.heap.size + 1 + 1) (j := i) (v := .int .i64 u') (by omega)).other (g := w.heap.size + 1 + 1) (j := j) (v := .int .i64 v') (by omega))
        have HB8 := Lib.hid (HB6.out.kept (set_below (set_below (Below.refl (w.heap.size + 1) w6) (b := w.heap.size + 1 + 1) (j := i) (v := .int .i64 u') (by omega)) (b := w.heap.size + 1 + 1) (j := j) (v := .int .i64 v') (by omega)) (Nat.lt_succ_self _) (Nat.le_succ _))
        clear d1 d2 d3 d4 HA6 HA7 HZ6 HB6 m1 m2 m3 m4 m5 m6 x1 x2 i0 i6 j0 j6
        go_roundw
        case rel => exact ⟨k + 1, by omega, by go_num, HZ8, HA8, HB8⟩
        case measure => simp [intOf]; omega
    · obtain rfl : k = N := by omega
      have HV : Hid (aggN (clsN a k p) = .agg #[.int .i64 ((parC a (bitsOf k p) 0).toNat : Nat), .int .i64 ((parC a (bitsOf k p) 1).toNat : Nat), .int .i64 ((parC a (bitsOf k p) 2).toNat : Nat), .int .i64 ((parC a (bitsOf k p) 3).toNat : Nat), .int .i64 ((parC a (bitsOf k p) 4).toNat : Nat), .int .i64 ((parC a (bitsOf k p) 5).toNat : Nat)]) := rfl
      have h6 : Arr (w.heap.size + 1 + 1) 52 [(parC a (bitsOf k p) 0).toNat, (parC a (bitsOf k p) 1).toNat, (parC a (bitsOf k p) 2).toNat, (parC a (bitsOf k p) 3).toNat, (parC a (bitsOf k p) 4).toNat, (parC a (bitsOf k p) 5).toNat] wr := HA.out
      generalize (parC a (bitsOf k p) 0).toNat = v0 at *
      generalize (parC a (bitsOf k p) 1).toNat = v1 at *
      generalize (parC a (bitsOf k p) 2).toNat = v2 at *
      generalize (parC a (bitsOf k p) 3).toNat = v3 at *
      generalize (parC a (bitsOf k p) 4).toNat = v4 at *
      generalize (parC a (bitsOf k p) 5).toNat = v5 at *
      obtain ⟨⟨d0, d1, d2, d3, d4, d5⟩, -⟩ := h6.six
      obtain ⟨⟨z0, z1, z2, z3, z4, z5⟩, f0, f1, f2, f3, f4, f5⟩ := HZ.out.six
      have hbw := HB.out.2.2.2.2
      clear h6 HA HZ HB
      go_wp2_with fail
      exact bodyPost_ret (v := .agg #[.int .i64 v0, .int .i64 v1, .int .i64 v2, .int .i64 v3, .int .i64 v4, .int .i64 v5]) (by simp [results, Try.results36, go_sem, z0, z1, z2, z3, z4, z5]) rfl ⟨by rw [HV.out], set_below (set_below (set_below (set_below (set_below (set_below hbw (Nat.le_succ _)) (Nat.le_succ _)) (Nat.le_succ _)) (Nat.le_succ _)) (Nat.le_succ _)) (Nat.le_succ _)⟩
/-- A list of small numbers in new memory. -/
def OwnN (T : TypeId) (xs : List Nat) (w : World) (e : Ending) (w' : World) : Prop :=
  ∃ v, e = .returned v ∧ w'.ownsRow w.heap.size T 1 v xs.length (Ints xs) ∧ Below w.heap.size w w'
theorem Arr.row {b base : Nat} {T : TypeId} {c : List Nat} {w : World} (h : Arr b T c w) {n : Nat} (hn : c.length = n) (hb : base ≤ b) (hm : n ≤ 1000000000) : w.ownsRow base T 1 (.slice (some ⟨b, 0, none⟩) n n) n (Ints c) := by
  have hl : (Ints c).length = n := by simp [Ints, hn]
  refine ⟨by rw [hl]; omega, .inr ⟨b, n, _, rfl, hb, h, Nat.le_refl _, by unfold maxLen; omega, by simp [hl], ?_⟩⟩
  rw [List.take_of_length_le (by simp [hl])]
theorem posNat {W H Z P : Int} (h : posB W H Z P = true) : ∃ a b N z p : Nat, W = a ∧ H = b ∧ Z = z ∧ P = p ∧ Ok (a : Int) (b : Int) N z ∧ Part p z := by
  obtain ⟨N, z, p, rfl, rfl, ho, hp⟩ := pos_yes h
  have h1 := ho.w1; have h2 := ho.h1
  obtain ⟨a, rfl⟩ := Int.eq_ofNat_of_zero_le (show 0 ≤ W by omega)
  obtain ⟨b, rfl⟩ := Int.eq_ofNat_of_zero_le (show 0 ≤ H by omega)
  exact ⟨a, b, N, z, p, rfl, rfl, rfl, rfl, ho, hp⟩
theorem Part.list {W H : Int} {N z p : Nat} (ho : Ok W H N z) (h : Part p z) : bitsOf 49 p = bitsOf N p := bitsOf_more (Nat.lt_of_le_of_lt h.le ho.zlt) 49 ho.n49
def classB (W H Z P : Int) : List Nat := if posB W H Z P = true then clsN W.toNat 49 P.toNat else []
def keyB (W H Z P : Int) : List Nat := if posB W H Z P = true then keyL (clsN W.toNat 49 P.toNat) else []
def numB (W H Z P : Int) : Int := if posB W H Z P = true then ((numL (keyL (clsN W.toNat 49 P.toNat)) : Nat) : Int) else -1
def sameB (W H Z P Q : Int) : Bool := posB W H Z P && posB W H Z Q && (keyB W H Z P == keyB W H Z Q)
/-- The holes of a board, in ascending order. -/
def holesL (W H Z : Int) : List Nat := if okB W H Z = true then bitsOf 49 Z.toNat else []
def finalB (W H Z P : Int) : List Nat := (holesL W H Z).filter fun k => sameB W H Z P (oneB W H Z k)
/-- A class, by its six numbers. -/
theorem cls_named (a n p : Nat) : ∃ c0 c1 c2 c3 c4 c5, clsN a n p = [c0, c1, c2, c3, c4, c5] ∧ c0 ≤ 1 ∧ c1 ≤ 1 ∧ c2 ≤ 1 ∧ c3 ≤ 1 ∧ c4 ≤ 1 ∧ c5 ≤ 1 := ⟨_, _, _, _, _, _, clsL_six _ _, toNat_le _, toNat_le _, toNat_le _, toNat_le _, toNat_le _, toNat_le _⟩
theorem implClassIs {a b N z p c0 c1 c2 c3 c4 c5 : Nat} (h : Ok (a : Int) (b : Int) N z) (hp : Part p z) (hc : clsN a 49 p = [c0, c1, c2, c3, c4, c5]) (w : World) :
    Calls Try.prog 36 #[.agg #[.int .i64 a, .int .i64 b, .int .i64 z], .int .i64 p] w fun e w' => e = .returned (.agg #[.int .i64 c0, .int .i64 c1, .int .i64 c2, .int .i64 c3, .int .i64 c4, .int .i64 c5]) ∧ Below w.heap.size w w' := by
  have := implClassAt h p w
  have e : clsN a N p = [c0, c1, c2, c3, c4, c5] := by rw [← hc]; unfold clsN; rw [hp.list h]
  rw [e] at this
  exact this
set_option maxRecDepth 100000 in
theorem implKeyIs {c0 c1 c2 c3 c4 c5 : Nat} (h0 : c0 ≤ 1) (h1 : c1 ≤ 1) (h2 : c2 ≤ 1) (h3 : c3 ≤ 1) (h4 : c4 ≤ 1) (h5 : c5 ≤ 1) (w : World) :
    Calls Try.prog 37 #[.agg #[.int .i64 c0, .int .i64 c1, .int .i64 c2, .int .i64 c3, .int .i64 c4, .int .i64 c5]] w fun e w' => e = .returned (.agg #[.int .i64 (dif c0 c1 : Nat), .int .i64 (dif c1 c2 : Nat), .int .i64 (dif c3 c4 : Nat), .int .i64 (dif c4 c5 : Nat)]) ∧ Below w.heap.size w w' := by
  have x0 := xor_dif h0 h1
  have x1 := xor_dif h1 h2
  have x2 := xor_dif h3 h4
  have x3 := xor_dif h4 h5
  generalize dif c0 c1 = k0 at *
  generalize dif c1 c2 = k1 at *
  generalize dif c3 c4 = k2 at *
  generalize dif c4 c5 = k3 at *
  clear h0 h1 h2 h3 h4 h5
  go_enter Try.func37, Try.ntmps37
  go_wp2_with fail
  exact bodyPost_ret (v := .agg #[.int .i64 k0, .int .i64 k1, .int .i64 k2, .int .i64 k3]) (by simp [results, Try.results37, go_sem]) rfl ⟨rfl, ((Below.refl _ _).alloc (Nat.le_refl _) _).alloc (by simp) _⟩
set_option maxHeartbeats 1000000 in
set_option maxRecDepth 100000 in
theorem eqKey (w : World) (a b c d a' b' c' d' : Int) : (binOp .eql 55 (.agg #[.int .i64 a, .int .i64 b, .int .i64 c, .int .i64 d]) (.agg #[.int .i64 a', .int .i64 b', .int .i64 c', .int .i64 d'])).run Try.prog w = .ok (.bool (a == a' && b == b' && c == c' && d == d')) w := by
  have hu : Try.prog.underlying 55 = some (.array 4 3) := by kernel_rfl
  have hu3 : Try.prog.underlying 3 = some (.int .i64) := by kernel_rfl
  have E : ∀ (x y : Int) w, (Op.equalIn 9999 3 (.int .i64 x) (.int .i64 y)).run Try.prog w = .ok (x == y) w := fun x y w => run_equalIn_int w 9998 3 .i64 .i64 x y hu3
  rw [run_eql_struct, show (10000 : Nat) = 9999 + 1 from rfl, Op.equalIn]
  simp only [Sem.run_bind, run_underlying hu, Result.andThen_ok]
  simp [Std.Legacy.Range.forIn_eq_forIn_range', go_sem]
  have hz : ∀ w, (isAgg 3).run Try.prog w = .ok false w := fun w => by simp [isAgg, Sem.run_bind, run_underlying hu3]
  rw [show List.range' 0 4 = [0, 1, 2, 3] from rfl]
  cases h0 : a == a' <;> cases h1 : b == b' <;> cases h2 : c == c' <;> cases h3 : d == d' <;> simp [hz, E, h0, h1, h2, h3]
set_option maxRecDepth 100000 in
theorem implClassOf (W H Z P : Int) (hP : P ≤ 9223372036854775807) (w : World) : Calls Try.prog 12 #[.agg #[.int .i64 W, .int .i64 H, .int .i64 Z], .int .i64 P] w (OwnN 52 (classB W H Z P) w) := by
  cases h : posB W H Z P
  · have C1 := Lib.hid (implPos_is hP h)
    rw [show classB W H Z P = [] by simp [classB, h]]
    clear h hP
    go_enter Try.func12, Try.ntmps12
    go_wp2_with fail
    have B0 := Lib.hid (box_new W H Z w)
    generalize w.alloc (.cells #[.int .i64 W, .int .i64 H, .int .i64 Z] 25) = W1 at *
    refine (C1.out _).mono ?_
    rintro e w1 ⟨rfl, hb⟩
    have B1 := Lib.hid (B0.out.later hb)
    have hp : Hid (OwnN 52 [] w (.returned (.slice none 0 0)) w1) := ⟨_, rfl, World.ownsRow_nil _ _ _ _, B1.out.2.2.2.2⟩
    go_wp2_with fail
    go_ret
    exact hp.out
  · have C1 := Lib.hid (implPos_is hP h)
    obtain ⟨a, b, N, z, p, rfl, rfl, rfl, rfl, ho, hp⟩ := posNat h
    rw [show classB a b z p = clsN a 49 p by simp [classB, h]]
    obtain ⟨c0, c1, c2, c3, c4, c5, hc, -⟩ := cls_named a 49 p
    have C2 := Lib.hid (fun w => implClassIs ho hp hc w)
    rw [hc]
    clear h hP ho hp hc
    go_enter Try.func12, Try.ntmps12
    go_wp2_with fail
    have B0 := Lib.hid (box_new a b z w)
    generalize w.alloc (.cells #[.int .i64 a, .int .i64 b, .int .i64 z] 25) = W1 at *
    refine (C1.out _).mono ?_
    rintro e w1 ⟨rfl, hb⟩
    have B1 := Lib.hid (B0.out.later hb)
    clear hb B0
    obtain ⟨q0, q1, q2, hlt, hbw⟩ := B1.out
    go_wp2_with fail
    refine (C2.out _).mono ?_
    rintro e w2 ⟨rfl, hb⟩
    have B2 := Lib.hid (B1.out.later hb)
    clear hb B1 q0 q1 q2 hlt hbw
    have hA : Arr w2.heap.size 52 [c0, c1, c2, c3, c4, c5] (w2.alloc (.cells #[.int .i64 c0, .int .i64 c1, .int .i64 c2, .int .i64 c3, .int .i64 c4, .int .i64 c5] 52)) := heap_alloc_new w2 _
    have hp : Hid (OwnN 52 [c0, c1, c2, c3, c4, c5] w (.returned (.slice (some ⟨w2.heap.size, 0, none⟩) 6 6)) (w2.alloc (.cells #[.int .i64 c0, .int .i64 c1, .int .i64 c2, .int .i64 c3, .int .i64 c4, .int .i64 c5] 52))) :=
      ⟨_, rfl, hA.row rfl B2.out.2.2.2.2.size (by decide), B2.out.2.2.2.2.alloc B2.out.2.2.2.2.size _⟩
    clear hA B2
    go_wp2_with fail
    go_ret
    exact hp.out
/-- A key, by its four numbers. -/
theorem key_named {c0 c1 c2 c3 c4 c5 : Nat} {l : List Nat} (h : l = [c0, c1, c2, c3, c4, c5]) : ∃ k0 k1 k2 k3, dif c0 c1 = k0 ∧ dif c1 c2 = k1 ∧ dif c3 c4 = k2 ∧ dif c4 c5 = k3 ∧ keyL l = [k0, k1, k2, k3] ∧ k0 ≤ 1 ∧ k1 ≤ 1 ∧ k2 ≤ 1 ∧ k3 ≤ 1 := by
  subst h
  exact ⟨_, _, _, _, rfl, rfl, rfl, rfl, rfl, dif_le _ _, dif_le _ _, dif_le _ _, dif_le _ _⟩
/-- What is told of a position that is valid: its class, its key, what the program makes of them. -/
structure KeyAt (a b z p c0 c1 c2 c3 c4 c5 k0 k1 k2 k3 : Nat) : Prop where
  cls : classB a b z p = [c0, c1, c2, c3, c4, c5]
  key : keyB a b z p = [k0, k1, k2, k3]
  num : numB a b z p = ((k0 + 2 * k1 + 4 * k2 + 8 * k3 : Nat) : Int)
  l0 : k0 ≤ 1
  l1 : k1 ≤ 1
  l2 : k2 ≤ 1
  l3 : k3 ≤ 1
  cc : ∀ w, Calls Try.prog 36 #[.agg #[.int .i64 a, .int .i64 b, .int .i64 z], .int .i64 p] w fun e w' => e = .returned (.agg #[.int .i64 c0, .int .i64 c1, .int .i64 c2, .int .i64 c3, .int .i64 c4, .int .i64 c5]) ∧ Below w.heap.size w w'
  ck : ∀ w, Calls Try.prog 37 #[.agg #[.int .i64 c0, .int .i64 c1, .int .i64 c2, .int .i64 c3, .int .i64 c4, .int .i64 c5]] w fun e w' => e = .returned (.agg #[.int .i64 k0, .int .i64 k1, .int .i64 k2, .int .i64 k3]) ∧ Below w.heap.size w w'
theorem keyAt {W H Z P : Int} (h : posB W H Z P = true) : ∃ a b z p c0 c1 c2 c3 c4 c5 k0 k1 k2 k3 : Nat, W = a ∧ H = b ∧ Z = z ∧ P = p ∧ KeyAt a b z p c0 c1 c2 c3 c4 c5 k0 k1 k2 k3 := by
  obtain ⟨a, b, N, z, p, rfl, rfl, rfl, rfl, ho, hp⟩ := posNat h
  obtain ⟨c0, c1, c2, c3, c4, c5, hc, h0, h1, h2, h3, h4, h5⟩ := cls_named a 49 p
  obtain ⟨k0, k1, k2, k3, e0, e1, e2, e3, hk, l0, l1, l2, l3⟩ := key_named hc
  refine ⟨a, b, z, p, c0, c1, c2, c3, c4, c5, k0, k1, k2, k3, rfl, rfl, rfl, rfl, ?_, ?_, ?_, l0, l1, l2, l3, fun w => implClassIs ho hp hc w, fun w => ?_⟩
  · unfold classB; rw [if_pos h]; exact hc
  · unfold keyB; rw [if_pos h]; exact hk
  · unfold numB; rw [if_pos h]; show ((numL (keyL (clsN a 49 p)) : Nat) : Int) = _; rw [hk]; rfl
  · have := implKeyIs h0 h1 h2 h3 h4 h5 w
    rw [e0, e1, e2, e3] at this
    exact this
set_option maxRecDepth 100000 in
theorem implKeyOf (W H Z P : Int) (hP : P ≤ 9223372036854775807) (w : World) : Calls Try.prog 13 #[.agg #[.int .i64 W, .int .i64 H, .int .i64 Z], .int .i64 P] w (OwnN 55 (keyB W H Z P) w) := by
  cases h : posB W H Z P
  · have C1 := Lib.hid (implPos_is hP h)
    rw [show keyB W H Z P = [] by simp [keyB, h]]
    clear h hP
    go_enter Try.func13, Try.ntmps13
    go_wp2_with fail
    have B0 := Lib.hid (box_new W H Z w)
    generalize w.alloc (.cells #[.int .i64 W, .int .i64 H, .int .i64 Z] 25) = W1 at *
    refine (C1.out _).mono ?_
    rintro e w1 ⟨rfl, hb⟩
    have B1 := Lib.hid (B0.out.later hb)
    have hp : Hid (OwnN 55 [] w (.returned (.slice none 0 0)) w1) := ⟨_, rfl, World.ownsRow_nil _ _ _ _, B1.out.2.2.2.2⟩
    go_wp2_with fail
    go_ret
    exact hp.out
  · have C1 := Lib.hid (implPos_is hP h)
    obtain ⟨a, b, z, p, c0, c1, c2, c3, c4, c5, k0, k1, k2, k3, rfl, rfl, rfl, rfl, K⟩ := keyAt h
    rw [K.key]
    have C2 := Lib.hid K.cc
    have C3 := Lib.hid K.ck
    clear h hP K
    go_enter Try.func13, Try.ntmps13
    go_wp2_with fail
    have B0 := Lib.hid (box_new a b z w)
    generalize w.alloc (.cells #[.int .i64 a, .int .i64 b, .int .i64 z] 25) = W1 at *
    refine (C1.out _).mono ?_
    rintro e w1 ⟨rfl, hb⟩
    have B1 := Lib.hid (B0.out.later hb)
    clear hb B0
    obtain ⟨q0, q1, q2, hlt, hbw⟩ := B1.out
    go_wp2_with fail
    refine (C2.out _).mono ?_
    rintro e w2 ⟨rfl, hb⟩
    have B2 := Lib.hid (B1.out.later hb)
    clear hb B1 q0 q1 q2 hlt hbw
    go_wp2_with fail
    refine (C3.out _).mono ?_
    rintro e w3 ⟨rfl, hb⟩
    have B3 := Lib.hid (B2.out.later hb)
    clear hb B2
    have hA : Arr w3.heap.size 55 [k0, k1, k2, k3] (w3.alloc (.cells #[.int .i64 k0, .int .i64 k1, .int .i64 k2, .int .i64 k3] 55)) := heap_alloc_new w3 _
    have hp : Hid (OwnN 55 [k0, k1, k2, k3] w (.returned (.slice (some ⟨w3.heap.size, 0, none⟩) 4 4)) (w3.alloc (.cells #[.int .i64 k0, .int .i64 k1, .int .i64 k2, .int .i64 k3] 55))) :=
      ⟨_, rfl, hA.row rfl B3.out.2.2.2.2.size (by decide), B3.out.2.2.2.2.alloc B3.out.2.2.2.2.size _⟩
    clear hA B3
    go_wp2_with fail
    go_ret
    exact hp.out
theorem ixKey (a b c d : Int) : ∀ w, (Instr.index 55 (.agg #[.int .i64 a, .int .i64 b, .int .i64 c, .int .i64 d]) (.int .i64 0)).run Try.prog w = .ok (.int .i64 a) w ∧ (Instr.index 55 (.agg #[.int .i64 a, .int .i64 b, .int .i64 c, .int .i64 d]) (.int .i64 1)).run Try.prog w = .ok (.int .i64 b) w ∧ (Instr.index 55 (.agg #[.int .i64 a, .int .i64 b, .int .i64 c, .int .i64 d]) (.int .i64 2)).run Try.prog w = .ok (.int .i64 c) w ∧ (Instr.index 55 (.agg #[.int .i64 a, .int .i64 b, .int .i64 c, .int .i64 d]) (.int .i64 3)).run Try.prog w = .ok (.int .i64 d) w := by
  intro w
  have hu : Try.prog.underlying 55 = some (.array 4 3) := by kernel_rfl
  have hu3 : Try.prog.underlying 3 = some (.int .i64) := by kernel_rfl
  have hz : ∀ w, (isAgg 3).run Try.prog w = .ok false w := fun w => by simp [isAgg, Sem.run_bind, run_underlying hu3]
  have hs : ∀ w, (sizeOf 3).run Try.prog w = .ok 1 w := fun w => by
    obtain ⟨i0, hi, hz1⟩ : ∃ i, Try.prog.info? 3 = some i ∧ i.size = 1 := ⟨_, by rfl, by rfl⟩
    simp [sizeOf, typeInfo, hi, hz1]
  refine ⟨?_, ?_, ?_, ?_⟩ <;> simp [Instr.index, asIntOf, Sem.run_bind, run_underlying hu, hs, hz, part]
set_option maxHeartbeats 1000000 in
set_option maxRecDepth 100000 in
theorem implKeyNumber (W H Z P : Int) (hP : P ≤ 9223372036854775807) (w : World) : Calls Try.prog 17 #[.agg #[.int .i64 W, .int .i64 H, .int .i64 Z], .int .i64 P] w (QI (numB W H Z P) w) := by
  cases h : posB W H Z P
  · have C1 := Lib.hid (implPos_is hP h)
    rw [show numB W H Z P = -1 by simp [numB, h]]
    clear h hP
    go_enter Try.func17, Try.ntmps17
    go_wp2_with fail
    have B0 := Lib.hid (box_new W H Z w)
    generalize w.alloc (.cells #[.int .i64 W, .int .i64 H, .int .i64 Z] 25) = W1 at *
    refine (C1.out _).mono ?_
    rintro e w1 ⟨rfl, hb⟩
    have B1 := Lib.hid (B0.out.later hb)
    go_wp2_with fail
    go_ret
    exact ⟨rfl, B1.out.2.2.2.2⟩
  · have C1 := Lib.hid (implPos_is hP h)
    obtain ⟨a, b, z, p, c0, c1, c2, c3, c4, c5, k0, k1, k2, k3, rfl, rfl, rfl, rfl, K⟩ := keyAt h
    rw [K.num]
    have C2 := Lib.hid K.cc
    have C3 := Lib.hid K.ck
    have hl0 := K.l0; have hl1 := K.l1; have hl2 := K.l2; have hl3 := K.l3
    clear h hP K
    go_enter Try.func17, Try.ntmps17
    go_wp2_with fail
    have B0 := Lib.hid (box_new a b z w)
    generalize w.alloc (.cells #[.int .i64 a, .int .i64 b, .int .i64 z] 25) = W1 at *
    refine (C1.out _).mono ?_
    rintro e w1 ⟨rfl, hb⟩
    have B1 := Lib.hid (B0.out.later hb)
    clear hb B0
    obtain ⟨q0, q1, q2, hlt, hbw⟩ := B1.out
    go_wp2_with fail
    refine (C2.out _).mono ?_
    rintro e w2 ⟨rfl, hb⟩
    have B2 := Lib.hid (B1.out.later hb)
    clear hb B1 q0 q1 q2 hlt hbw
    go_wp2_with fail
    refine (C3.out _).mono ?_
    rintro e w3 ⟨rfl, hb⟩
    have B3 := Lib.hid (B2.out.later hb)
    clear hb B2
    have hx0 := fun w => (ixKey k0 k1 k2 k3 w).1
    have hx1 := fun w => (ixKey k0 k1 k2 k3 w).2.1
    have hx2 := fun w => (ixKey k0 k1 k2 k3 w).2.2.1
    have hx3 := fun w => (ixKey k0 k1 k2 k3 w).2.2.2
    obtain ⟨s1, hs1⟩ : ∃ s : Nat, s = k0 := ⟨_, rfl⟩
    obtain ⟨s2, hs2⟩ : ∃ s : Nat, s = k0 + 2 * k1 := ⟨_, rfl⟩
    obtain ⟨s3, hs3⟩ : ∃ s : Nat, s = k0 + 2 * k1 + 4 * k2 := ⟨_, rfl⟩
    obtain ⟨s4, hs4⟩ : ∃ s : Nat, s = k0 + 2 * k1 + 4 * k2 + 8 * k3 := ⟨_, rfl⟩
    go_wp2_with fail
    go_loopw [5, 16] (fun n i wr => wr = w3 ∧ ((i = .int .i64 0 ∧ n = .int .i64 0) ∨ (i = .int .i64 1 ∧ n = .int .i64 s1) ∨ (i = .int .i64 2 ∧ n = .int .i64 s2) ∨ (i = .int .i64 3 ∧ n = .int .i64 s3) ∨ (i = .int .i64 4 ∧ n = .int .i64 s4))) (fun _ i _ => 4 - (intOf i).toNat)
    case atStart => exact ⟨rfl, .inl ⟨rfl, rfl⟩⟩
    case round =>
      obtain ⟨rfl, ⟨rfl, rfl⟩ | ⟨rfl, rfl⟩ | ⟨rfl, rfl⟩ | ⟨rfl, rfl⟩ | ⟨rfl, rfl⟩⟩ := hrel
      · go_wp2_with fail
        go_roundw
        case rel => exact ⟨trivial, .inr (.inl ⟨rfl, congrArg (Value.int .i64) (by omega)⟩)⟩
        case measure => simp [intOf]
      · go_wp2_with fail
        go_roundw
        case rel => exact ⟨trivial, .inr (.inr (.inl ⟨rfl, congrArg (Value.int .i64) (by omega)⟩))⟩
        case measure => simp [intOf]
      · go_wp2_with fail
        go_roundw
        case rel => exact ⟨trivial, .inr (.inr (.inr (.inl ⟨rfl, congrArg (Value.int .i64) (by omega)⟩)))⟩
        case measure => simp [intOf]
      · go_wp2_with fail
        go_roundw
        case rel => exact ⟨trivial, .inr (.inr (.inr (.inr ⟨rfl, congrArg (Value.int .i64) (by omega)⟩)))⟩
        case measure => simp [intOf]
      · go_wp2_with fail
        go_ret
        exact QI.of (by omega) B3.out.2.2.2.2
end Go.Proofs.Ytlcoojgnokphmaa
