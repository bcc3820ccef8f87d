/- What is told of what is reached: order, pegs, jumps, single pegs, keys; of no program. -/
import Derived.Test.YtgkmapemnlgldaaReachMath
import Derived.Test.YtgkmapemnlgldaaClasses
namespace Go.Proofs.Ytgkmapemnlgldaa
set_option linter.unusedVariables false
/-- The board is small, P is a position of it: in numbers. -/
structure Small5 (W H Z P : Int) (a b N z p : Nat) : Prop where
  eW : W = a
  eH : H = b
  eZ : Z = z
  eP : P = p
  ok : Ok (a : Int) (b : Int) N z
  n16 : N ≤ 16
  part : Part p z
theorem small5 {W H Z P : Int} (h1 : smallB W H Z = true) (h2 : posB W H Z P = true) : ∃ a b N z p, Small5 W H Z P a b N z p := by
  obtain ⟨a, b, N, z, rfl, rfl, rfl, ho, hN, h16⟩ := small_nat h1
  obtain ⟨N', z', p, e1, rfl, ho', hp⟩ := pos_yes h2
  obtain rfl : z = z' := by omega
  exact ⟨a, b, N, z, p, rfl, rfl, rfl, rfl, ho, h16, hp⟩
section
variable {W H Z P : Int} {a b N z p : Nat}
theorem Small5.small (S : Small5 W H Z P a b N z p) : smallB W H Z = true := by
  rw [S.eW, S.eH, S.eZ]
  simp only [smallB, Bool.and_eq_true, decide_eq_true_eq]
  refine ⟨S.ok.ok, ?_⟩
  have h1 := S.ok.nat.1
  have h2 := S.n16
  rw [← Int.natCast_mul, h1]
  omega
theorem Small5.pos (S : Small5 W H Z P a b N z p) : posB W H Z P = true := by rw [S.eW, S.eH, S.eZ, S.eP]; exact pos_of S.ok S.part
theorem Small5.mem (S : Small5 W H Z P a b N z p) {q : Nat} : q ∈ reachL false W H Z P ↔ Rch (stepL false (lnsOf a b z)) p q := by
  rw [reach_yes S.small S.pos, S.eW, S.eH, S.eZ, S.eP]
  exact mem_seen S.ok S.part
theorem Small5.self (S : Small5 W H Z P a b N z p) : p ∈ reachL false W H Z P := S.mem.2 (.refl p)
theorem Small5.sub (S : Small5 W H Z P a b N z p) {q : Nat} (h : q ∈ reachL false W H Z P) : Part q z := rch_part S.ok S.part (S.mem.1 h)
theorem Small5.at (S : Small5 W H Z P a b N z p) {q : Nat} (h : q ∈ reachL false W H Z P) : Small5 W H Z (q : Int) a b N z q := ⟨S.eW, S.eH, S.eZ, rfl, S.ok, S.n16, S.sub h⟩
/-- What is reached from a reachable position is reachable. -/
theorem Small5.more (S : Small5 W H Z P a b N z p) {q r : Nat} (h : q ∈ reachL false W H Z P) (hr : r ∈ reachL false W H Z (q : Int)) : r ∈ reachL false W H Z P := S.mem.2 ((S.mem.1 h).trans ((S.at h).mem.1 hr))
theorem Small5.line (S : Small5 W H Z P a b N z p) {l : Ln} (hl : l ∈ lnsOf a b z) : ∃ f o t, LnAt a b z l f o t := by
  obtain ⟨hN, ha, -, -, -, -⟩ := S.ok.nat
  rw [lnsOf_ok S.ok] at hl
  exact mem_at hN ha hl
/-- A step is a jump. -/
theorem Small5.step (S : Small5 W H Z P a b N z p) {q r : Nat} (hq : Part q z) (hr : r ∈ stepL false (lnsOf a b z) q) : ∃ l, jumpB W H Z (q : Int) l = true ∧ flipL (q : Int) l = (r : Int) ∧ r ≠ 0 := by
  obtain ⟨l, hl, hh, rfl⟩ := mem_step.1 hr
  obtain ⟨f, o, t, T⟩ := S.line hl
  obtain ⟨e1, e2⟩ := hit_at (back := false) (p := q) T
  refine ⟨l, ?_, by rw [e2, Int.toNat_natCast], ?_⟩
  · have hp : posB W H Z (q : Int) = true := by rw [S.eW, S.eH, S.eZ]; exact pos_of S.ok hq
    have hc : (lnsOf W H Z).contains l = true := by rw [S.eW, S.eH, S.eZ, List.contains_iff_mem]; exact hl
    simp only [jumpB, hp, hc, Bool.true_and]
    simpa [hitL] using hh
  · rw [e2, Int.toNat_natCast]
    intro h0
    rw [e1] at hh
    simp only [Bool.false_eq_true, if_false, befN, Bool.and_eq_true, Bool.not_eq_true'] at hh
    have hb := bit_flip q f o t t
    rw [h0, hh.2] at hb
    simp [bit] at hb
/-- A jump leads to what is reached. -/
theorem Small5.jump (S : Small5 W H Z P a b N z p) {q : Nat} (h : q ∈ reachL false W H Z P) {l : Ln} (hj : jumpB W H Z (q : Int) l = true) : ∃ r : Nat, flipL (q : Int) l = (r : Int) ∧ r ∈ reachL false W H Z P := by
  obtain ⟨-, hc, hb⟩ := jump_parts hj
  rw [S.eW, S.eH, S.eZ, List.contains_iff_mem] at hc
  obtain ⟨f, o, t, T⟩ := S.line hc
  have e2 := (hit_at (back := false) (p := q) T).2
  refine ⟨flipN q f o t, e2, S.mem.2 ((S.mem.1 h).snoc (mem_step.2 ⟨l, hc, by simpa [hitL] using hb, by rw [e2, Int.toNat_natCast]⟩))⟩
/-- Pegs only become fewer. -/
theorem Small5.pegs (S : Small5 W H Z P a b N z p) {q : Nat} (h : q ∈ reachL false W H Z P) : pc 49 q ≤ pc 49 p ∧ (pc 49 q = pc 49 p → q = p) := by
  refine (S.mem.1 h).closed (S := fun q => pc 49 q ≤ pc 49 p ∧ (pc 49 q = pc 49 p → q = p)) (fun q r hq hr => ?_) ⟨Nat.le_refl _, fun _ => rfl⟩
  have := step_rank (back := false) S.ok q r hr
  simp only [rankN, Bool.false_eq_true, if_false] at this
  have := hq.1
  exact ⟨by omega, fun e => by omega⟩
theorem Small5.zero (S : Small5 W H Z P a b N z p) (h : 0 ∈ reachL false W H Z P) : p = 0 := by
  have := (S.mem.1 h).closed (S := fun q => Part q z ∧ (q ≠ 0 ∨ q = p)) (fun q r hq hr => ⟨step_part S.ok hq.1 hr, .inl (S.step hq.1 hr).choose_spec.2.2⟩) ⟨S.part, .inr rfl⟩
  rcases this.2 with h | h
  · exact absurd rfl h
  · exact h.symm
/-- No game changes the key. -/
theorem Small5.key (S : Small5 W H Z P a b N z p) {q : Nat} (h : q ∈ reachL false W H Z P) : keyB W H Z (q : Int) = keyB W H Z P := by
  have hpos : ∀ q, Part q z → posB W H Z (q : Int) = true := fun q hq => by rw [S.eW, S.eH, S.eZ]; exact pos_of S.ok hq
  have := (S.mem.1 h).closed (S := fun q => Part q z ∧ keyB W H Z (q : Int) = keyB W H Z P) (fun q r hq hr => by
    obtain ⟨l, hj, hf, -⟩ := S.step hq.1 hr
    have hr' := step_part S.ok hq.1 hr
    refine ⟨hr', ?_⟩
    rw [← hq.2]
    refine run_key (xs := [l]) (hpos q hq.1) (hpos r hr') ?_
    rw [show [l] = [] ++ [l] from rfl, runO_snoc, runO_nil]
    simp [stO, doB, hj, hf]) ⟨S.part, by rw [S.eP]⟩
  exact this.2
theorem reach_order (back : Bool) (W H Z P : Int) {i j q r : Nat} (hij : i < j) (hi : (reachL back W H Z P)[i]? = some q) (hj : (reachL back W H Z P)[j]? = some r) : q < r := by
  have hs : (reachL back W H Z P).Pairwise (· < ·) := by
    unfold reachL seenL
    split
    · exact List.Pairwise.filter _ List.pairwise_lt_range
    · exact List.Pairwise.nil
  obtain ⟨h1, e1⟩ := List.getElem?_eq_some_iff.1 hi
  obtain ⟨h2, e2⟩ := List.getElem?_eq_some_iff.1 hj
  have := (List.pairwise_iff_getElem.1 hs) i j h1 h2 hij
  rw [e1, e2] at this
  exact this
/-- One step towards the least number of pegs. -/
def fewF (best : Int) (q : Nat) : Int := if best < 0 ∨ ((pc 49 q : Nat) : Int) < best then ((pc 49 q : Nat) : Int) else best
theorem fewF_min {x : Int} (q : Nat) (h : 0 ≤ x) : fewF x q = min x ((pc 49 q : Nat) : Int) := by
  unfold fewF
  split <;> omega
theorem few_fold : ∀ (l : List Nat) (x : Int), 0 ≤ x → 0 ≤ l.foldl fewF x ∧ (l.foldl fewF x ≤ x ∧ ∀ q ∈ l, l.foldl fewF x ≤ ((pc 49 q : Nat) : Int)) ∧ (l.foldl fewF x = x ∨ ∃ q ∈ l, l.foldl fewF x = ((pc 49 q : Nat) : Int))
  | [], x, h => ⟨h, ⟨Int.le_refl _, fun q hq => absurd hq (by simp)⟩, .inl rfl⟩
  | q :: l, x, h => by
    have e := fewF_min q h
    obtain ⟨h0, ⟨h1, h2⟩, h3⟩ := few_fold l (fewF x q) (by rw [e]; omega)
    rw [List.foldl_cons]
    refine ⟨h0, ⟨by omega, fun r hr => ?_⟩, ?_⟩
    · rcases List.mem_cons.1 hr with rfl | hr
      · omega
      · exact h2 r hr
    · rcases h3 with h3 | ⟨r, hr, h3⟩
      · rcases Int.le_total x ((pc 49 q : Nat) : Int) with hx | hx
        · left; rw [h3, e]; omega
        · right; exact ⟨q, by simp, by rw [h3, e]; omega⟩
      · right; exact ⟨r, List.mem_cons_of_mem _ hr, h3⟩
theorem few_is {l : List Nat} {p : Nat} (hp : p ∈ l) : fewL l = l.foldl fewF ((pc 49 p : Nat) : Int) ∧ 0 ≤ fewL l ∧ (∀ q ∈ l, fewL l ≤ ((pc 49 q : Nat) : Int)) ∧ ∃ q ∈ l, fewL l = ((pc 49 q : Nat) : Int) := by
  have hA : 0 ≤ fewL l ∧ (∀ q ∈ l, fewL l ≤ ((pc 49 q : Nat) : Int)) ∧ ∃ q ∈ l, fewL l = ((pc 49 q : Nat) : Int) := by
    cases l with
    | nil => cases hp
    | cons r l =>
      have e : fewL (r :: l) = l.foldl fewF ((pc 49 r : Nat) : Int) := by
        show l.foldl fewF (fewF (-1) r) = _
        rw [show fewF (-1) r = ((pc 49 r : Nat) : Int) from if_pos (.inl (by decide))]
      obtain ⟨h0, ⟨h1, h2⟩, h3⟩ := few_fold l ((pc 49 r : Nat) : Int) (by omega)
      rw [e]
      refine ⟨h0, fun q hq => ?_, ?_⟩
      · rcases List.mem_cons.1 hq with rfl | hq
        · exact h1
        · exact h2 q hq
      · rcases h3 with h3 | ⟨q, hq, h3⟩
        · exact ⟨r, by simp, h3⟩
        · exact ⟨q, List.mem_cons_of_mem _ hq, h3⟩
  refine ⟨?_, hA⟩
  obtain ⟨h0, h1, q, hq, h3⟩ := hA
  obtain ⟨g0, ⟨g1, g2⟩, g3⟩ := few_fold l ((pc 49 p : Nat) : Int) (by omega)
  have hp1 := h1 p hp
  have hq2 := g2 q hq
  rcases g3 with g3 | ⟨r, hr, g3⟩
  · omega
  · have := h1 r hr
    omega
theorem pc_one_pow {k : Nat} (hk : k < 49) : pc 49 (2 ^ k) = 1 := by rw [← bitsOf_length, bits_pow hk]; rfl
theorem one_peg {q : Nat} (hq : q < 2 ^ 49) (h : pc 49 q = 1) : ∃ k, k < 49 ∧ q = 2 ^ k ∧ bit q k = true := by
  rw [← bitsOf_length] at h
  obtain ⟨k, hx⟩ := List.length_eq_one_iff.1 h
  have hm : k ∈ bitsOf 49 q := by rw [hx]; simp
  have hb := mem_bitsOf.1 hm
  have hs := powSum_all hq
  rw [hx] at hs
  exact ⟨k, hb.1, by rw [← hs]; simp [powSum], hb.2⟩
theorem Small5.holes (S : Small5 W H Z P a b N z p) : holesR W H Z = bitsOf 49 z := by
  unfold holesR
  rw [S.eW, S.eH, S.eZ, if_pos S.ok.ok, Int.toNat_natCast]
/-- One peg is left just if there is a hole where a single peg is left. -/
theorem Small5.single (S : Small5 W H Z P a b N z p) : (fewL (reachL false W H Z P) == 1) = decide (0 < (finL W H Z P).length) := by
  obtain ⟨-, h0, h1, q, hq, h2⟩ := few_is S.self
  rw [Bool.eq_iff_iff, beq_iff_eq, decide_eq_true_eq]
  constructor
  · intro h
    have hs := S.sub hq
    obtain ⟨k, hk, rfl, hb⟩ := one_peg (Nat.lt_of_le_of_lt hs.le S.ok.z49) (by omega)
    refine List.length_pos_of_mem (a := k) (List.mem_filter.2 ⟨?_, decide_eq_true hq⟩)
    rw [S.holes]
    exact mem_bitsOf.2 ⟨hk, hs.bit hb⟩
  · intro h
    obtain ⟨k, hk⟩ := List.exists_mem_of_length_pos h
    obtain ⟨hk1, hk2⟩ := List.mem_filter.1 hk
    have hk2 := of_decide_eq_true hk2
    rw [S.holes] at hk1
    have hk49 := (mem_bitsOf.1 hk1).1
    have h3 := h1 _ hk2
    rw [pc_one_pow hk49] at h3
    rcases Int.lt_or_eq_of_le h3 with h4 | h4
    · exfalso
      have hz : pc 49 q = 0 := by omega
      have hq0 : q = 0 := by
        have hs := powSum_all (Nat.lt_of_le_of_lt (S.sub hq).le S.ok.z49)
        rw [← bitsOf_length] at hz
        rw [List.eq_nil_of_length_eq_zero hz] at hs
        rw [← hs]; rfl
      subst hq0
      have hp0 := S.zero hq
      have := (S.pegs hk2).1
      rw [pc_one_pow hk49, hp0] at this
      have e : pc 49 0 = 0 := by decide
      omega
    · exact h4
/-- A hole where a single peg is left. -/
theorem Small5.final (S : Small5 W H Z P a b N z p) {k : Nat} (h : k ∈ finL W H Z P) : k < 49 ∧ k < N ∧ bit z k = true ∧ 2 ^ k ∈ reachL false W H Z P ∧ k ∈ finalB W H Z P := by
  obtain ⟨hk1, hk2⟩ := List.mem_filter.1 h
  have hk2 := of_decide_eq_true hk2
  rw [S.holes] at hk1
  have hb := mem_bitsOf.1 hk1
  have hkN : k < N := by
    have := S.ok.list
    rw [this] at hk1
    exact (mem_bitsOf.1 hk1).1
  refine ⟨hb.1, hkN, hb.2, hk2, ?_⟩
  have e := (one_hole S.ok hk1).1
  have hpos : posB (a : Int) (b : Int) (z : Int) ((2 ^ k : Nat) : Int) = true := pos_of S.ok (S.sub hk2)
  have hkey := S.key hk2
  have hp := S.pos
  rw [S.eW, S.eH, S.eZ] at hkey hp ⊢
  exact (final_mem S.ok).2 ⟨hk1, by rw [e]; exact same_of hp hpos hkey.symm⟩
end
end Go.Proofs.Ytgkmapemnlgldaa
