/- Whether a position is good: the mathematics of the search with a memory, what the memory's blocks hold, the library's ContainsFunc and IndexFunc at a closure that may turn the memory. -/
import Derived.Test.YtlklnabnomfhbaaGreatWayMath
import Derived.Test.YtlklnabnomfhbaaGreatMapKit
import Derived.Test.YtlklnabnomfhbaaGreatJumps
namespace Go.Proofs.YtlklnabnomfhbaaGreat
open Go.RowKit
set_option linter.unusedVariables false
set_option linter.unusedSimpArgs false
theorem gb_refl (w : World) (r : Option Nat) : w.grownBy w r := ⟨rfl, rfl, rfl, Nat.le_refl _, fun _ _ _ => rfl⟩
theorem gb_trans {a w w' : World} {r : Option Nat} (h : a.grownBy w r) (k : w.grownBy w' r) : a.grownBy w' r :=
  ⟨k.os.trans h.os, k.tape.trans h.tape, k.output.trans h.output, Nat.le_trans h.size k.size, fun j hj hn => (k.block j (Nat.lt_of_lt_of_le hj h.size) hn).trans (h.block j hj hn)⟩
theorem gb_after {a w w' : World} {r : Option Nat} (h : a.grownBy w r) (k : Below w.heap.size w w') : a.grownBy w' r := gb_trans h (grown_below k r)
theorem closed_gb (a : World) (r : Option Nat) : Closed (fun w => a.grownBy w r) := fun _ _ h k => gb_after h k
/-- A line of a small board: its numbers, the jump along it. -/
theorem line_is5 {a b N z : Nat} (ho : Ok (a : Int) (b : Int) N z) (q : Nat) {l : Ln} (hl : l ∈ lnsOf (a : Int) b z) : ∃ f o t r : Nat, l = ((f : Int), (o : Int), (t : Int)) ∧ f < 49 ∧ o < 49 ∧ t < 49 ∧ flipN q f o t = r ∧ flipL (q : Int) l = (r : Int) ∧ befL (q : Int) l = befN q f o t ∧ (befN q f o t = true → pc 49 r + 1 = pc 49 q) ∧ (Part q z → Part r z) := by
  obtain ⟨hN, ha, -, -, -, h49⟩ := ho.nat
  have hl' := hl
  rw [lnsOf_ok ho] at hl'
  obtain ⟨f, o, t, S⟩ := mem_at hN ha hl'
  have f1 := S.fN; have o1 := S.oN; have t1 := S.tN
  obtain ⟨e1, e2⟩ := hit_at (back := false) (p := q) S
  refine ⟨f, o, t, _, S.eq, by omega, by omega, by omega, rfl, e2, by simpa [hitL] using e1, fun h => pc_flip (n := 49) S.fo S.ft S.ot (by omega) (by omega) (by omega) h, fun h => part_flip h S.bf S.bo S.bt⟩
/-- A position is good if it is the goal, or some jump leads to a good one. -/
theorem good_rec {a b N z q : Nat} (ho : Ok (a : Int) (b : Int) N z) (h16 : N ≤ 16) (hq : Part q z) (G : Int) :
    reachB false a b z q G = (decide ((q : Int) = G) || (lnsOf (a : Int) b z).any (fun l => befL q l && reachB false a b z (flipL q l) G)) := by
  have S : Small5 (a : Int) b z (q : Int) a b N z q := ⟨rfl, rfl, rfl, rfl, ho, h16, hq⟩
  rw [Bool.eq_iff_iff, Bool.or_eq_true, decide_eq_true_eq, List.any_eq_true]
  constructor
  · intro h
    obtain ⟨g, rfl, hg⟩ := S.nat_of h
    obtain ⟨k, hk⟩ := S.mem.1 hg
    cases k with
    | zero => left; simp [rchK] at hk; rw [hk]
    | succ k =>
      simp only [rchK, Bool.or_eq_true, List.any_eq_true, beq_iff_eq] at hk
      rcases hk with hk | ⟨r, hr, hk⟩
      · left; rw [hk]
      · right
        obtain ⟨l, hl, hh, hf⟩ := mem_step.1 hr
        obtain ⟨f, o, t, r', rfl, -, -, -, -, e2, e3, -, hp⟩ := line_is5 ho q hl
        rw [e2, Int.toNat_natCast] at hf
        subst hf
        refine ⟨_, hl, ?_⟩
        rw [Bool.and_eq_true, e2]
        refine ⟨by simpa [hitL] using hh, ?_⟩
        have S' : Small5 (a : Int) b z (r' : Int) a b N z r' := ⟨rfl, rfl, rfl, rfl, ho, h16, hp hq⟩
        exact reach_mem.1 (S'.mem.2 ⟨k, hk⟩)
  · rintro (h | ⟨l, hl, h⟩)
    · rw [← h]; exact reach_mem.1 S.self
    · rw [Bool.and_eq_true] at h
      obtain ⟨f, o, t, r, rfl, -, -, -, -, e2, e3, -, hp⟩ := line_is5 ho q hl
      rw [e2] at h
      have S' : Small5 (a : Int) b z (r : Int) a b N z r := ⟨rfl, rfl, rfl, rfl, ho, h16, hp hq⟩
      obtain ⟨g, rfl, hg⟩ := S'.nat_of h.2
      refine reach_mem.1 (S.mem.2 (.cons (mem_step.2 ⟨_, hl, ?_, ?_⟩) (S'.mem.1 hg)))
      · simpa [hitL] using h.1
      · rw [e2, Int.toNat_natCast]
/-- The closure that tells whether a position is good. -/
def GoodV (bk bg bl bi : Nat) : Value := .func (.func 69) #[] #[.pointer (some ⟨bk, 0, none⟩), .pointer (some ⟨bg, 0, none⟩), .pointer (some ⟨bl, 0, none⟩), .pointer (some ⟨bi, 0, none⟩)]
/-- The closure's blocks but for the map. -/
structure Fixed (xs : List Ln) (G : Int) (B bk bg bl bi bm : Nat) (va : Option Addr) (n vc : Nat) (w : World) : Prop where
  k : w.cell? ⟨bk, 0, none⟩ = some (.map (some bm))
  g : w.cell? ⟨bg, 0, none⟩ = some (.int .i64 G)
  l : w.cell? ⟨bl, 0, none⟩ = some (.slice va n vc)
  i : w.cell? ⟨bi, 0, none⟩ = some (GoodV bk bg bl bi)
  row : w.ownsRow B 39 3 (.slice va n vc) n (lv xs)
  len : xs.length = n
  nk : bk ≠ bm
  ng : bg ≠ bm
  nl : bl ≠ bm
  ni : bi ≠ bm
  nr : (Value.slice va n vc).ownBlock ≠ some bm
  lo : B ≤ bm
  lt : bm < w.heap.size
abbrev BoolMap (w : World) (b : Nat) (l : List (Int × Bool)) : Prop := MapAt (fun n : Int => Value.int .i64 n) Value.bool w b l
theorem key_pos : KeyRun Tryz.prog 3 (fun n : Int => Value.int .i64 n) := key_int Tryz.underlying3
theorem zero_bool5 (w : World) : (zeroValue 4).run Tryz.prog w = .ok (.bool false) w := by kernel_rfl
/-- The map: what it says is so. -/
def Knows (a b z : Nat) (G : Int) (bm : Nat) (w : World) : Prop := ∃ l, BoolMap w bm l ∧ ∀ q v, getM l q = some v → v = reachB false a b z q G
section
variable {a b z : Nat} {G : Int} {B bk bg bl bi bm n vc : Nat} {va : Option Addr} {xs : List Ln} {w w' : World}
theorem Fixed.grown (h : Fixed xs G B bk bg bl bi bm va n vc w) (hg : w.grownBy w' (some bm)) : Fixed xs G B bk bg bl bi bm va n vc w' := by
  have ne : ∀ {x : Nat}, x ≠ bm → some x ≠ some bm := fun h e => h (by simpa using e)
  exact ⟨hg.cell h.k (ne h.nk), hg.cell h.g (ne h.ng), hg.cell h.l (ne h.nl), hg.cell h.i (ne h.ni), h.row.kept hg (.inr h.nr), h.len, h.nk, h.ng, h.nl, h.ni, h.nr, h.lo, Nat.lt_of_lt_of_le h.lt hg.size⟩
theorem Fixed.later (h : Fixed xs G B bk bg bl bi bm va n vc w) (hb : Below w.heap.size w w') : Fixed xs G B bk bg bl bi bm va n vc w' := h.grown (grown_below hb _)
theorem Knows.later (h : Knows a b z G bm w) (hb : Below w.heap.size w w') : Knows a b z G bm w' := by
  obtain ⟨l, hl, hv⟩ := h
  exact ⟨l, hl.later hb, hv⟩
theorem closed_knows : Closed (Knows a b z G bm) := fun _ _ h k => h.later k
end
set_option maxHeartbeats 4000000 in
set_option maxRecDepth 100000 in
theorem implIndexG {B n vc pa pb : Nat} {va : Option Addr} {xs : List Ln} {f : Ln → Bool} {J : World → Prop} (hn : xs.length = n) (hle : n ≤ 196) (hrow : ∀ w, J w → w.ownsRow B 39 3 (.slice va n vc) n (lv xs))
    (hcall : ∀ x y t, (x, y, t) ∈ xs → ∀ w, J w → Calls Tryz.prog 71 #[.agg #[.int .i64 x, .int .i64 y, .int .i64 t], .pointer (some ⟨pa, 0, none⟩), .pointer (some ⟨pb, 0, none⟩)] w (fun e w' => e = .returned (.bool (f (x, y, t))) ∧ J w')) (w : World) (h : J w) :
    Calls Tryz.prog 84 #[.slice va n vc, .func (.func 71) #[] #[.pointer (some ⟨pa, 0, none⟩), .pointer (some ⟨pb, 0, none⟩)]] w (fun e w' => ∃ i : Int, e = .returned (.int .i64 i) ∧ decide (0 ≤ i) = xs.any f ∧ J w') := by
  have HN := Lib.hid hn
  have HR := Lib.hid hrow
  have HC := Lib.hid hcall
  have HJ := Lib.hid h
  clear hn hrow hcall h
  go_enter Tryz.func84, Tryz.ntmps84
  go_wp2_with fail
  go_loopw [8] (fun i wr => ∃ k : Nat, k ≤ n ∧ i = .int .i64 k ∧ Hid (∀ x ∈ xs.take k, f x = false) ∧ Hid (J wr)) (fun i _ => n - (intOf i).toNat)
  case atStart => exact ⟨0, Nat.zero_le _, rfl, fun x hx => absurd hx (by simp), HJ⟩
  case round =>
    clear HJ
    obtain ⟨k, hk, rfl, HNone, HJ⟩ := hrel
    by_cases hkn : k < n
    · have k0 : (0 : Int) ≤ (k : Int) := by omega
      have k1 : (k : Int) < (n : Int) := by omega
      obtain ⟨⟨x, y, t⟩, hl⟩ : ∃ l, xs[k]? = some l := ⟨_, List.getElem?_eq_getElem (by rw [HN.out]; exact hkn)⟩
      obtain ⟨g, rfl⟩ : ∃ g, va = some ⟨g, 0, none⟩ := by
        rcases Go.Joins.ownsRow_forms (HR.out _ HJ.out) with ⟨h, h0⟩ | ⟨g, cap, h⟩
        · omega
        · injection h with h1 h2 h3; exact ⟨g, h1⟩
      obtain ⟨l0, l1, l2⟩ := line_cells (HR.out _ HJ.out) HN.out hl
      have CX := Lib.hid (HC.out x y t (List.mem_of_getElem? hl) wr HJ.out)
      have HL := Lib.hid hl
      clear hl
      go_wp2_with fail
      refine CX.out.mono ?_
      rintro e w1 ⟨rfl, hj⟩
      have HJ1 := Lib.hid hj
      clear hj CX l0 l1 l2
      cases hf : f (x, y, t)
      · have HN2 : Hid (∀ x ∈ xs.take (k + 1), f x = false) := fun u hu => by
          rw [take_one HL.out, List.mem_append, List.mem_singleton] at hu
          rcases hu with hu | rfl
          · exact HNone.out u hu
          · exact hf
        clear hf
        go_wp2_with fail
        go_roundw
        case rel => exact ⟨k + 1, by omega, by go_num, HN2, HJ1⟩
        case measure => simp [intOf]; omega
      · have HY : Hid (xs.any f = true) := List.any_eq_true.2 ⟨_, List.mem_of_getElem? HL.out, hf⟩
        clear hf
        go_wp2_with fail
        go_ret
        exact ⟨_, rfl, by rw [HY.out]; simp, HJ1.out⟩
    · obtain rfl : k = n := by omega
      have HF : Hid (xs.any f = false) := by
        unfold Hid
        rw [List.any_eq_false]
        intro x hx
        have := HNone.out x (by rw [List.take_of_length_le (by rw [HN.out]; exact Nat.le_refl _)]; exact hx)
        simp [this]
      go_wp2_with fail
      go_ret
      exact ⟨_, rfl, by rw [HF.out]; rfl, HJ.out⟩
set_option maxRecDepth 100000 in
theorem implContainsG {B n vc pa pb : Nat} {va : Option Addr} {xs : List Ln} {f : Ln → Bool} {J : World → Prop} (hn : xs.length = n) (hle : n ≤ 196) (hrow : ∀ w, J w → w.ownsRow B 39 3 (.slice va n vc) n (lv xs))
    (hcall : ∀ x y t, (x, y, t) ∈ xs → ∀ w, J w → Calls Tryz.prog 71 #[.agg #[.int .i64 x, .int .i64 y, .int .i64 t], .pointer (some ⟨pa, 0, none⟩), .pointer (some ⟨pb, 0, none⟩)] w (fun e w' => e = .returned (.bool (f (x, y, t))) ∧ J w')) (w : World) (h : J w) :
    Calls Tryz.prog 70 #[.slice va n vc, .func (.func 71) #[] #[.pointer (some ⟨pa, 0, none⟩), .pointer (some ⟨pb, 0, none⟩)]] w (fun e w' => e = .returned (.bool (xs.any f)) ∧ J w') := by
  have CX := Lib.hid (implIndexG (pa := pa) (pb := pb) hn hle hrow hcall w h)
  clear hn hle hrow hcall h
  go_enter Tryz.func70, Tryz.ntmps70
  go_wp2_with fail
  refine CX.out.mono ?_
  rintro e w1 ⟨i, rfl, hi, hj⟩
  have HI := Lib.hid hi
  have HJ := Lib.hid hj
  clear hi hj CX
  by_cases h0 : (0 : Int) ≤ i
  · have HX : Hid (xs.any f = true) := by unfold Hid; rw [← HI.out, decide_eq_true h0]
    go_wp2_with fail
    go_ret
    exact ⟨ret_bool HX.out.symm, HJ.out⟩
  · have HX : Hid (xs.any f = false) := by unfold Hid; rw [← HI.out, decide_eq_false h0]
    go_wp2_with fail
    go_ret
    exact ⟨ret_bool HI.out, HJ.out⟩
end Go.Proofs.YtlklnabnomfhbaaGreat
