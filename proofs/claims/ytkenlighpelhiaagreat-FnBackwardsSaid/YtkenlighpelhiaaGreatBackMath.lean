/- What is told of searches backwards, of starts, of the holes that can be solved and of pairs; of no program. -/
import Derived.Test.YtkenlighpelhiaaGreatWayMath
import Derived.Test.YtkenlighpelhiaaGreatOtherMath
import Derived.Test.YtkenlighpelhiaaGreatBackP
namespace Go.Proofs.YtkenlighpelhiaaGreat
set_option linter.unusedVariables false
section
variable {a b N z : Nat}
/-- A jump turned: from the complement of where it leads to that of where it begins. -/
theorem step_comp (ho : Ok (a : Int) (b : Int) N z) {p q : Nat} (hp : Part p z) (h : q ∈ stepL false (lnsOf a b z) p) : compN z p ∈ stepL false (lnsOf a b z) (compN z q) := by
  obtain ⟨hN, ha, -, -, -, -⟩ := ho.nat
  obtain ⟨l, hl, hh, hr⟩ := mem_step.1 h
  have hl' := hl
  rw [lnsOf_ok ho] at hl'
  obtain ⟨f, o, t, S⟩ := mem_at hN ha hl'
  obtain ⟨e1, e2⟩ := hit_at (back := false) (p := p) S
  rw [e1] at hh
  simp only [Bool.false_eq_true, if_false] at hh
  rw [e2, Int.toNat_natCast] at hr
  refine mem_step.2 ⟨l, hl, ?_, ?_⟩
  · rw [(hit_at (back := false) (p := compN z q) S).1, ← hr]
    simpa using bef_comp S.bf S.bo S.bt hh
  · rw [(hit_at (back := false) (p := compN z q) S).2, ← hr, flip_comp S.bf S.bo S.bt, Int.toNat_natCast]
theorem rch_comp (ho : Ok (a : Int) (b : Int) N z) {p q : Nat} (hp : Part p z) (h : Rch (stepL false (lnsOf a b z)) p q) : Rch (stepL false (lnsOf a b z)) (compN z q) (compN z p) := by
  have := h.closed (S := fun x => Part x z ∧ Rch (stepL false (lnsOf a b z)) (compN z x) (compN z p)) (fun x y hx hy => ⟨step_part ho hx.1 hy, .cons (step_comp ho hx.1 hy) hx.2⟩) ⟨hp, .refl _⟩
  exact this.2
end
section
variable {W H Z P : Int} {a b N z p : Nat}
theorem Small5.to (S : Small5 W H Z P a b N z p) {q : Nat} (hq : Part q z) : Small5 W H Z (q : Int) a b N z q := ⟨S.eW, S.eH, S.eZ, rfl, S.ok, S.n16, hq⟩
theorem Small5.memB (S : Small5 W H Z P a b N z p) {q : Nat} : q ∈ reachL true W H Z P ↔ Rch (stepL true (lnsOf a b z)) p q := by
  rw [reach_yes S.small S.pos, S.eW, S.eH, S.eZ, S.eP]
  exact mem_seen S.ok S.part
/-- The goal is among the positions from which it is reached. -/
theorem Small5.selfB (S : Small5 W H Z P a b N z p) : p ∈ reachL true W H Z P := S.memB.2 (.refl p)
theorem Small5.subB (S : Small5 W H Z P a b N z p) {q : Nat} (h : q ∈ reachL true W H Z P) : Part q z := rch_part S.ok S.part (S.memB.1 h)
/-- The positions from which a goal is reached. -/
theorem Small5.backs (S : Small5 W H Z P a b N z p) {q : Nat} (hq : Part q z) : q ∈ reachL true W H Z P ↔ reachB false W H Z (q : Int) P = true := by
  rw [S.memB, rch_rev S.ok, ← (S.to hq).mem, reach_mem, S.eP]
/-- Nothing but the empty position leads to the empty one. -/
theorem Small5.none (S : Small5 W H Z P a b N z p) : (reachL true W H Z 0).length = 1 := by
  have S0 : Small5 W H Z ((0 : Nat) : Int) a b N z 0 := S.to (part_zero z)
  have h1 : 0 ∈ reachL true W H Z 0 := S0.selfB
  have h2 := nodup_len (reachL true W H Z 0) [0] (reach_nodup ..) (fun q hq => by
    have hp : Part q z := S0.subB hq
    have h3 := (S0.backs hp).1 hq
    have h4 := (S.to hp).zero (reach_mem.2 h3)
    rw [h4]
    exact List.mem_singleton.2 rfl)
  have h3 := List.length_pos_of_mem h1
  simp only [List.length_singleton] at h2
  omega
/-- All holes but one, as a sum. -/
theorem Small5.but (S : Small5 W H Z P a b N z p) {k : Nat} (hk : k ∈ holesR W H Z) : butB W H Z k = ((compN z (2 ^ k) : Nat) : Int) ∧ Part (2 ^ k) z := by
  obtain ⟨N', z', r, e, ho, -, hb, hr, -, he⟩ := but_hole hk
  obtain rfl : z = z' := by have := S.eZ; omega
  have hp := part_pow hb
  have := comp_add hp
  refine ⟨?_, hp⟩
  rw [he]
  have : compN z (2 ^ k) = r := by omega
  rw [this]
/-- A hole is a start just if the position with all holes but it is among those from which the goal is reached. -/
theorem Small5.start (S : Small5 W H Z P a b N z p) {k : Nat} (hk : k ∈ holesR W H Z) : k ∈ startL W H Z P ↔ compN z (2 ^ k) ∈ reachL true W H Z P := by
  obtain ⟨h1, h2⟩ := S.but hk
  rw [S.backs (part_comp ..), ← h1]
  unfold startL
  rw [List.mem_filter]
  exact ⟨fun h => h.2, fun h => ⟨hk, h⟩⟩
/-- One hole leads to another just if that one leads to it. -/
theorem Small5.turned (S : Small5 W H Z P a b N z p) {k m : Nat} (hk : k ∈ holesR W H Z) (hm : m ∈ holesR W H Z) (h : reachB false W H Z (butB W H Z k) ((2 ^ m : Nat) : Int) = true) : reachB false W H Z (butB W H Z m) ((2 ^ k : Nat) : Int) = true := by
  obtain ⟨h1, h2⟩ := S.but hk
  obtain ⟨h3, h4⟩ := S.but hm
  rw [h1, ← reach_mem, (S.to (part_comp ..)).mem] at h
  rw [h3, ← reach_mem, (S.to (part_comp ..)).mem]
  have := rch_comp S.ok (part_comp ..) h
  rwa [comp_comp h2] at this
end
theorem mem_pair {W H Z : Int} {xs : List Int} : xs ∈ pairL W H Z ↔ smallB W H Z = true ∧ (holesR W H Z).length ≤ 12 ∧ ∃ k m : Nat, xs = [(k : Int), (m : Int)] ∧ k ∈ holesR W H Z ∧ m ∈ holesR W H Z ∧ reachB false W H Z (butB W H Z k) ((2 ^ m : Nat) : Int) = true := by
  unfold pairL
  split
  · next h =>
    simp only [Bool.and_eq_true, decide_eq_true_eq] at h
    rw [List.mem_flatMap]
    constructor
    · rintro ⟨k, hk, h1⟩
      unfold pairRow at h1
      obtain ⟨m, hm, rfl⟩ := List.mem_map.1 h1
      obtain ⟨hm1, hm2⟩ := List.mem_filter.1 hm
      exact ⟨h.1, h.2, k, m, rfl, hk, hm1, hm2⟩
    · rintro ⟨-, -, k, m, rfl, hk, hm, hr⟩
      exact ⟨k, hk, List.mem_map.2 ⟨m, List.mem_filter.2 ⟨hm, hr⟩, rfl⟩⟩
  · next h =>
    simp only [Bool.and_eq_true, decide_eq_true_eq] at h
    constructor
    · intro h1; cases h1
    · rintro ⟨h1, h2, -⟩; exact absurd ⟨h1, h2⟩ h
theorem zero_small {W H Z : Int} (h : smallB W H Z = true) : ∃ a b N z : Nat, Small5 W H Z 0 a b N z 0 := by
  obtain ⟨a, b, N, z, rfl, rfl, rfl, ho, hN, h16⟩ := small_nat h
  exact ⟨a, b, N, z, rfl, rfl, rfl, rfl, ho, h16, part_zero z⟩
/-- Each pair has its turned one among the pairs, and begins with a hole that can be solved. -/
theorem pair_facts {W H Z : Int} {xs : List Int} (h : xs ∈ pairL W H Z) : ∃ k m : Nat, xs = [(k : Int), (m : Int)] ∧ k ∈ solvL W H Z ∧ [(m : Int), (k : Int)] ∈ pairL W H Z := by
  obtain ⟨hs, h12, k, m, rfl, hk, hm, hr⟩ := mem_pair.1 h
  obtain ⟨a, b, N, z, S⟩ := zero_small hs
  refine ⟨k, m, rfl, ?_, mem_pair.2 ⟨hs, h12, m, k, rfl, hm, hk, S.turned hk hm hr⟩⟩
  unfold solvL
  rw [if_pos hs, List.mem_filter]
  refine ⟨hk, decide_eq_true (List.length_pos_of_mem (a := m) ?_)⟩
  unfold finL
  exact List.mem_filter.2 ⟨hm, decide_eq_true (reach_mem.2 hr)⟩
/-- There is a pair just if there is a hole that can be solved. -/
theorem pair_some {W H Z : Int} (h12 : (holesR W H Z).length ≤ 12) : (solvL W H Z = []) ↔ (pairL W H Z = []) := by
  constructor
  · intro h
    refine List.eq_nil_iff_forall_not_mem.2 fun xs hx => ?_
    obtain ⟨k, m, -, hk, -⟩ := pair_facts hx
    rw [h] at hk
    cases hk
  · intro h
    refine List.eq_nil_iff_forall_not_mem.2 fun k hk => ?_
    unfold solvL at hk
    split at hk
    · next hs =>
      obtain ⟨hk1, hk2⟩ := List.mem_filter.1 hk
      obtain ⟨m, hm⟩ := List.exists_mem_of_length_pos (of_decide_eq_true hk2)
      obtain ⟨hm1, hm2⟩ := List.mem_filter.1 hm
      have := mem_pair.2 ⟨hs, h12, k, m, rfl, hk1, hm1, reach_mem.1 (of_decide_eq_true hm2)⟩
      rw [h] at this
      cases this
    · cases hk
end Go.Proofs.YtkenlighpelhiaaGreat
