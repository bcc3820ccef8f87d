/- What is reached by jumps: paths with a bound on their length, sets that are closed, the positions that are reached in order; of no program. -/
import Derived.Test.YtgkmapemnlgldaaJumps
import Derived.Test.YtgkmapemnlgldaaLinesAll
import Derived.Test.YtgkmapemnlgldaaPegsAll
namespace Go.Proofs.Ytgkmapemnlgldaa
set_option linter.unusedVariables false
/-- Whether a path of at most k steps leads from p to q. -/
def rchK (st : Nat → List Nat) : Nat → Nat → Nat → Bool
  | 0, p, q => p == q
  | k + 1, p, q => p == q || (st p).any (fun r => rchK st k r q)
def Rch (st : Nat → List Nat) (p q : Nat) : Prop := ∃ k, rchK st k p q = true
def rchB (st : Nat → List Nat) (p q : Nat) : Bool := rchK st 49 p q
section
variable {st : Nat → List Nat}
theorem rchK_self (k p : Nat) : rchK st k p p = true := by cases k <;> simp [rchK]
theorem Rch.refl (p : Nat) : Rch st p p := ⟨0, rchK_self 0 p⟩
theorem Rch.cons {p r q : Nat} (h : r ∈ st p) (hr : Rch st r q) : Rch st p q := by
  obtain ⟨k, hk⟩ := hr
  refine ⟨k + 1, ?_⟩
  simp only [rchK, Bool.or_eq_true, List.any_eq_true]
  exact .inr ⟨r, h, hk⟩
theorem Rch.trans {p q r : Nat} (h : Rch st p q) (h' : Rch st q r) : Rch st p r := by
  obtain ⟨k, hk⟩ := h
  induction k generalizing p with
  | zero => simp [rchK] at hk; subst hk; exact h'
  | succ k ih =>
    simp only [rchK, Bool.or_eq_true, List.any_eq_true, beq_iff_eq] at hk
    rcases hk with rfl | ⟨x, hx, hk⟩
    · exact h'
    · exact .cons hx (ih hk)
theorem Rch.snoc {p q r : Nat} (h : Rch st p q) (hr : r ∈ st q) : Rch st p r := h.trans (.cons hr (.refl r))
/-- What is closed under steps holds what is reached. -/
theorem Rch.closed {S : Nat → Prop} (hc : ∀ q r, S q → r ∈ st q → S r) {p q : Nat} (hp : S p) (h : Rch st p q) : S q := by
  obtain ⟨k, hk⟩ := h
  induction k generalizing p with
  | zero => simp [rchK] at hk; subst hk; exact hp
  | succ k ih =>
    simp only [rchK, Bool.or_eq_true, List.any_eq_true, beq_iff_eq] at hk
    rcases hk with rfl | ⟨x, hx, hk⟩
    · exact hp
    · exact ih (hc _ _ hp hx) hk
/-- Where each step lowers a number, so many steps are enough. -/
theorem rchK_rank {μ : Nat → Nat} (hμ : ∀ p r, r ∈ st p → μ r + 1 ≤ μ p) {k m p q : Nat} (h : rchK st k p q = true) (hm : μ p ≤ m) : rchK st m p q = true := by
  induction k generalizing p m with
  | zero => simp [rchK] at h; subst h; exact rchK_self m p
  | succ k ih =>
    simp only [rchK, Bool.or_eq_true, List.any_eq_true, beq_iff_eq] at h
    rcases h with rfl | ⟨x, hx, h⟩
    · exact rchK_self m p
    · have := hμ p x hx
      obtain ⟨m, rfl⟩ : ∃ m', m = m' + 1 := ⟨m - 1, by omega⟩
      simp only [rchK, Bool.or_eq_true, List.any_eq_true]
      exact .inr ⟨x, hx, ih h (by omega)⟩
theorem rchB_iff {μ : Nat → Nat} (hμ : ∀ p r, r ∈ st p → μ r + 1 ≤ μ p) (h49 : ∀ p, μ p ≤ 49) {p q : Nat} : rchB st p q = true ↔ Rch st p q :=
  ⟨fun h => ⟨49, h⟩, fun ⟨_, h⟩ => rchK_rank hμ h (h49 p)⟩
/-- A set that holds p, that is reached, and that is closed, is what is reached from p. -/
theorem reach_is {μ : Nat → Nat} (hμ : ∀ p r, r ∈ st p → μ r + 1 ≤ μ p) (h49 : ∀ p, μ p ≤ 49) {S : Nat → Bool} {p : Nat} (h0 : S p = true) (hr : ∀ q, S q = true → Rch st p q) (hc : ∀ q r, S q = true → r ∈ st q → S r = true) (q : Nat) : S q = rchB st p q := by
  rw [Bool.eq_iff_iff, rchB_iff hμ h49]
  exact ⟨hr q, fun h => h.closed (S := fun q => S q = true) hc h0⟩
end
/-- A jump, or an undone jump, over one of the lines. -/
def hitL (back : Bool) (p : Nat) (l : Ln) : Bool := if back = true then aftL p l else befL p l
def stepL (back : Bool) (ls : List Ln) (p : Nat) : List Nat := (ls.filter (hitL back p)).map fun l => (flipL p l).toNat
theorem mem_step {back : Bool} {ls : List Ln} {p r : Nat} : r ∈ stepL back ls p ↔ ∃ l ∈ ls, hitL back p l = true ∧ (flipL p l).toNat = r := by
  simp [stepL, and_assoc]
def rankN (back : Bool) (p : Nat) : Nat := if back = true then 49 - pc 49 p else pc 49 p
theorem rank_le (back : Bool) (p : Nat) : rankN back p ≤ 49 := by
  have := pc_le 49 p
  unfold rankN; split <;> omega
theorem hit_at {back : Bool} {p a b z : Nat} {l : Ln} {f o t : Nat} (h : LnAt a b z l f o t) : hitL back p l = (if back = true then aftN p f o t else befN p f o t) ∧ flipL p l = (flipN p f o t : Nat) := by
  rw [h.eq]
  exact ⟨by simp [hitL, befL, aftL], by simp [flipL]⟩
theorem step_rank {back : Bool} {a b N z : Nat} (ho : Ok (a : Int) (b : Int) N z) (p r : Nat) (h : r ∈ stepL back (lnsOf a b z) p) : rankN back r + 1 ≤ rankN back p := by
  obtain ⟨hN, ha, -, -, -, h49⟩ := ho.nat
  obtain ⟨l, hl, hh, rfl⟩ := mem_step.1 h
  rw [lnsOf_ok ho] at hl
  obtain ⟨f, o, t, S⟩ := mem_at hN ha hl
  obtain ⟨e1, e2⟩ := hit_at (back := back) (p := p) S
  rw [e1] at hh
  rw [e2, Int.toNat_natCast]
  have f1 := S.fN
  have o1 := S.oN
  have t1 := S.tN
  cases back
  · simp only [Bool.false_eq_true, if_false] at hh
    have := pc_flip (n := 49) S.fo S.ft S.ot (by omega) (by omega) (by omega) hh
    simp [rankN]; omega
  · simp only [if_true] at hh
    have := pc_flip (n := 49) S.fo S.ft S.ot (by omega) (by omega) (by omega) (bef_flip hh)
    rw [flip_flip] at this
    have := pc_le 49 (flipN p f o t)
    simp [rankN]; omega
theorem step_part {back : Bool} {a b N z p r : Nat} (ho : Ok (a : Int) (b : Int) N z) (hp : Part p z) (h : r ∈ stepL back (lnsOf a b z) p) : Part r z := by
  obtain ⟨hN, ha, -, -, -, -⟩ := ho.nat
  obtain ⟨l, hl, -, rfl⟩ := mem_step.1 h
  rw [lnsOf_ok ho] at hl
  obtain ⟨f, o, t, S⟩ := mem_at hN ha hl
  rw [(hit_at (back := back) (p := p) S).2, Int.toNat_natCast]
  exact part_flip hp S.bf S.bo S.bt
theorem rch_part {back : Bool} {a b N z p r : Nat} (ho : Ok (a : Int) (b : Int) N z) (hp : Part p z) (h : Rch (stepL back (lnsOf a b z)) p r) : Part r z :=
  h.closed (S := fun q => Part q z) (fun _ _ h1 h2 => step_part ho h1 h2) hp
theorem part_lt {p z n : Nat} (h : Part p z) (hz : z < 2 ^ n) : p < 2 ^ n := Nat.lt_of_le_of_lt h.le hz
/-- What a search holds when it stands at number k of its list, line i. -/
structure SeenAt (st : Nat → List Nat) (p M : Nat) (T : List Nat) (k : Nat) : Prop where
  nodup : T.Nodup
  start : p ∈ T
  lt : ∀ q ∈ T, q < M
  got : ∀ q ∈ T, Rch st p q
  done : ∀ i q r, i < k → T[i]? = some q → r ∈ st q → r ∈ T
theorem nodup_len : ∀ (l g : List Nat), l.Nodup → (∀ s ∈ l, s ∈ g) → l.length ≤ g.length
  | [], g, _, _ => Nat.zero_le _
  | s :: l, g, hn, hs => by
    have hsg := hs s (List.mem_cons_self ..)
    rw [List.nodup_cons] at hn
    have := nodup_len l (g.erase s) hn.2 (fun t ht => by
      refine (List.mem_erase_of_ne ?_).2 (hs t (List.mem_cons_of_mem _ ht))
      rintro rfl
      exact hn.1 ht)
    rw [List.length_erase_of_mem hsg] at this
    have := List.length_pos_of_mem hsg
    simp only [List.length_cons]
    omega
theorem SeenAt.len {st : Nat → List Nat} {p M : Nat} {T : List Nat} {k : Nat} (h : SeenAt st p M T k) : T.length ≤ M := by
  have := nodup_len T (List.range M) h.nodup (fun q hq => List.mem_range.2 (h.lt q hq))
  simpa using this
theorem seen_start {st : Nat → List Nat} {p M : Nat} (hp : p < M) : SeenAt st p M [p] 0 :=
  ⟨by simp, by simp, fun q hq => by rw [List.mem_singleton.1 hq]; exact hp, fun q hq => by rw [List.mem_singleton.1 hq]; exact .refl p, fun i q r hi => absurd hi (Nat.not_lt_zero _)⟩
theorem SeenAt.push {st : Nat → List Nat} {p M : Nat} {T : List Nat} {k q r : Nat} (h : SeenAt st p M T k) (hk : k < T.length) (hq : T[k]? = some q) (hr : r ∈ st q) (hn : r ∉ T) (hM : r < M) : SeenAt st p M (T ++ [r]) k := by
  refine ⟨List.pairwise_append.2 ⟨h.nodup, by simp, fun a ha b hb => by rw [List.mem_singleton.1 hb]; rintro rfl; exact hn ha⟩, List.mem_append_left _ h.start, fun x hx => ?_, fun x hx => ?_, fun i x y hi hx hy => ?_⟩
  · rcases List.mem_append.1 hx with hx | hx
    · exact h.lt x hx
    · rw [List.mem_singleton.1 hx]; exact hM
  · rcases List.mem_append.1 hx with hx | hx
    · exact h.got x hx
    · rw [List.mem_singleton.1 hx]; exact (h.got q (List.mem_of_getElem? hq)).snoc hr
  · rw [List.getElem?_append_left (by omega)] at hx
    exact List.mem_append_left _ (h.done i x y hi hx hy)
theorem SeenAt.next {st : Nat → List Nat} {p M : Nat} {T : List Nat} {k q : Nat} (h : SeenAt st p M T k) (hq : T[k]? = some q) (hd : ∀ r ∈ st q, r ∈ T) : SeenAt st p M T (k + 1) :=
  ⟨h.nodup, h.start, h.lt, h.got, fun i x y hi hx hy => by
    rcases Nat.lt_or_ge i k with hi' | hi'
    · exact h.done i x y hi' hx hy
    · obtain rfl : i = k := by omega
      rw [hq] at hx
      cases hx
      exact hd y hy⟩
theorem SeenAt.all {back : Bool} {a b N z : Nat} (ho : Ok (a : Int) (b : Int) N z) {p M : Nat} {T : List Nat} {k : Nat} (h : SeenAt (stepL back (lnsOf a b z)) p M T k) (hk : T.length ≤ k) (q : Nat) : decide (q ∈ T) = rchB (stepL back (lnsOf a b z)) p q :=
  reach_is (S := fun q => decide (q ∈ T)) (step_rank (back := back) ho) (rank_le back) (decide_eq_true h.start) (fun q hq => h.got q (of_decide_eq_true hq))
    (fun q r hq hr => by
      obtain ⟨i, hi⟩ := List.mem_iff_getElem?.1 (of_decide_eq_true hq)
      have := (List.getElem?_eq_some_iff.1 hi).1
      exact decide_eq_true (h.done i q r (by omega) hi hr)) q
/-- Small boards, and the positions that are reached, in order. -/
def smallB (W H Z : Int) : Bool := okB W H Z && decide (W * H ≤ 16)
def seenB (back : Bool) (W H Z P : Int) (q : Nat) : Bool := rchB (stepL back (lnsOf W H Z)) P.toNat q
def seenL (back : Bool) (W H Z P : Int) : List Nat := (List.range (2 ^ (W * H).toNat)).filter (seenB back W H Z P)
def reachL (back : Bool) (W H Z P : Int) : List Nat := if (smallB W H Z && posB W H Z P) = true then seenL back W H Z P else []
def reachB (back : Bool) (W H Z P G : Int) : Bool := smallB W H Z && posB W H Z P && posB W H Z G && seenB back W H Z P G.toNat
theorem reach_no {back : Bool} {W H Z P : Int} (h : (smallB W H Z && posB W H Z P) = false) : reachL back W H Z P = [] := by unfold reachL; rw [h]; rfl
theorem reach_yes {back : Bool} {W H Z P : Int} (h1 : smallB W H Z = true) (h2 : posB W H Z P = true) : reachL back W H Z P = seenL back W H Z P := by unfold reachL; rw [h1, h2]; rfl
theorem small_nat {W H Z : Int} (h : smallB W H Z = true) : ∃ a b N z : Nat, W = a ∧ H = b ∧ Z = z ∧ Ok (a : Int) (b : Int) N z ∧ a * b = N ∧ N ≤ 16 := by
  simp only [smallB, Bool.and_eq_true, decide_eq_true_eq] at h
  obtain ⟨a, b, N, z, rfl, rfl, rfl, ho⟩ := okNat h.1
  have hN := ho.nat.1
  refine ⟨a, b, N, z, rfl, rfl, rfl, ho, hN, ?_⟩
  have := h.2
  rw [← Int.natCast_mul, hN] at this
  omega
theorem reach_len (back : Bool) (W H Z P : Int) : (reachL back W H Z P).length ≤ 65536 := by
  unfold reachL
  split
  · next h =>
    obtain ⟨a, b, N, z, rfl, rfl, rfl, ho, hN, h16⟩ := small_nat (Bool.and_eq_true_iff.1 h).1
    refine Nat.le_trans (List.length_filter_le ..) ?_
    rw [List.length_range, ← Int.natCast_mul, hN, Int.toNat_natCast]
    exact Nat.pow_le_pow_right (by decide) h16
  · exact Nat.zero_le _
/-- Whether a number is one of those that are reached. -/
theorem mem_seen {back : Bool} {a b N z p : Nat} (ho : Ok (a : Int) (b : Int) N z) (hp : Part p z) {q : Nat} : q ∈ seenL back a b z p ↔ Rch (stepL back (lnsOf a b z)) p q := by
  unfold seenL seenB
  rw [List.mem_filter, List.mem_range, ← Int.natCast_mul, ho.nat.1, Int.toNat_natCast, Int.toNat_natCast, rchB_iff (step_rank (back := back) ho) (rank_le back)]
  exact ⟨fun h => h.2, fun h => ⟨part_lt (rch_part ho hp h) ho.zlt, h⟩⟩
theorem reach_mem {back : Bool} {W H Z P : Int} {q : Nat} : q ∈ reachL back W H Z P ↔ reachB back W H Z P q = true := by
  cases h1 : smallB W H Z
  · rw [reach_no (by rw [h1]; rfl)]; simp [reachB, h1]
  cases h2 : posB W H Z P
  · rw [reach_no (by rw [h1, h2]; rfl)]; simp [reachB, h2]
  rw [reach_yes h1 h2]
  obtain ⟨a, b, N, z, rfl, rfl, rfl, ho, hN, h16⟩ := small_nat h1
  obtain ⟨N', z', p, e1, rfl, ho', hp⟩ := pos_yes h2
  obtain rfl : z = z' := by omega
  rw [mem_seen ho hp]
  unfold reachB
  rw [h1, h2]
  simp only [Bool.true_and, Bool.and_eq_true, seenB, Int.toNat_natCast, rchB_iff (step_rank (back := back) ho) (rank_le back)]
  refine ⟨fun h => ⟨?_, h⟩, fun h => h.2⟩
  rw [pos_of ho (rch_part ho hp h)]
/-- The least number of pegs over a list of positions; the holes where a single peg is left. -/
def fewL (l : List Nat) : Int := l.foldl (fun (best : Int) (q : Nat) => if best < 0 ∨ ((pc 49 q : Nat) : Int) < best then ((pc 49 q : Nat) : Int) else best) (-1)
theorem fewL_snoc (l : List Nat) (q : Nat) : fewL (l ++ [q]) = if fewL l < 0 ∨ ((pc 49 q : Nat) : Int) < fewL l then ((pc 49 q : Nat) : Int) else fewL l := by
  unfold fewL
  rw [List.foldl_append]
  rfl
theorem fewL_in (l : List Nat) : -1 ≤ fewL l ∧ fewL l ≤ 49 := by
  rcases List.eq_nil_or_concat l with rfl | ⟨m, q, rfl⟩
  · exact ⟨by decide, by decide⟩
  · rw [List.concat_eq_append]
    have h := fewL_in m
    have := pc_le 49 q
    rw [fewL_snoc]
    split <;> omega
termination_by l.length
decreasing_by simp_all
def holesR (W H Z : Int) : List Nat := if okB W H Z = true then bitsOf 49 Z.toNat else []
theorem holesR_len (W H Z : Int) : (holesR W H Z).length ≤ 49 := by
  unfold holesR; split
  · exact bitsOf_le 49 _
  · exact Nat.zero_le _
theorem holesR_lt {W H Z : Int} {k : Nat} (h : k ∈ holesR W H Z) : k < 49 := by
  unfold holesR at h
  split at h
  · exact (mem_bitsOf.1 h).1
  · cases h
def finL (W H Z P : Int) : List Nat := (holesR W H Z).filter fun k => decide (2 ^ k ∈ reachL false W H Z P)
theorem reach_nodup (back : Bool) (W H Z P : Int) : (reachL back W H Z P).Nodup := by
  unfold reachL seenL
  split
  · exact List.Pairwise.filter _ List.nodup_range
  · exact List.Pairwise.nil
theorem reach_lt {back : Bool} {W H Z P : Int} {q : Nat} (h : q ∈ reachL back W H Z P) : q < 65536 := by
  unfold reachL at h
  split at h
  · next hc =>
    obtain ⟨a, b, N, z, rfl, rfl, rfl, ho, hN, h16⟩ := small_nat (Bool.and_eq_true_iff.1 hc).1
    have := List.mem_range.1 (List.mem_filter.1 h).1
    rw [← Int.natCast_mul, hN, Int.toNat_natCast] at this
    exact Nat.lt_of_lt_of_le this (Nat.pow_le_pow_right (by decide) h16)
  · cases h
theorem reach_pos {back : Bool} {W H Z P : Int} {q : Nat} (h : q ∈ reachL back W H Z P) : posB W H Z q = true := by
  have := reach_mem.1 h
  simp only [reachB, Bool.and_eq_true] at this
  exact this.1.2
end Go.Proofs.Ytgkmapemnlgldaa
