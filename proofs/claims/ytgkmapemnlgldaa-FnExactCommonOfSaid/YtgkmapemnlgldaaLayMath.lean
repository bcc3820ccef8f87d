/- Layers of both ends, lists in common, the widest layer: of no program. -/
import Derived.Test.YtgkmapemnlgldaaWayMath
namespace Go.Proofs.Ytgkmapemnlgldaa
set_option linter.unusedVariables false
/-- What one step from a list leads to, in ascending order. -/
def nextK (st : Nat → List Nat) (M : Nat) (l : List Nat) : List Nat := (List.range M).filter fun q => l.any fun p => (st p).contains q
def layK (st : Nat → List Nat) (M p : Nat) : Nat → List Nat
  | 0 => [p]
  | n + 1 => nextK st M (layK st M p n)
section
variable {st : Nat → List Nat} {M p : Nat}
theorem mem_nextK {l : List Nat} {q : Nat} : q ∈ nextK st M l ↔ q < M ∧ ∃ r ∈ l, q ∈ st r := by
  simp [nextK]
theorem nextK_up (l : List Nat) : (nextK st M l).Pairwise (· < ·) := List.Pairwise.filter _ List.pairwise_lt_range
theorem layK_up (n : Nat) : (layK st M p n).Pairwise (· < ·) := by
  cases n with
  | zero => simp [layK]
  | succ n => exact nextK_up _
theorem nextK_nil : nextK st M [] = [] := by
  unfold nextK
  rw [List.filter_eq_nil_iff]
  intro q _
  simp
theorem layK_nil {n : Nat} (h : layK st M p n = []) (k : Nat) : layK st M p (n + k) = [] := by
  induction k with
  | zero => exact h
  | succ k ih =>
    show nextK st M (layK st M p (n + k)) = []
    rw [ih, nextK_nil]
theorem layK_len (h : p < M) (n : Nat) : (layK st M p n).length ≤ M := by
  cases n with
  | zero => simp [layK]; omega
  | succ n =>
    unfold layK nextK
    exact Nat.le_trans (List.length_filter_le ..) (by simp)
theorem layK_lt (h : p < M) {n q : Nat} (hq : q ∈ layK st M p n) : q < M := by
  cases n with
  | zero => simp [layK] at hq; omega
  | succ n => exact (mem_nextK.1 hq).1
theorem layK_rch {n q : Nat} (h : q ∈ layK st M p n) : Rch st p q := by
  induction n generalizing q with
  | zero => simp [layK] at h; subst h; exact .refl _
  | succ n ih =>
    obtain ⟨-, r, hr, hq⟩ := mem_nextK.1 h
    exact (ih hr).snoc hq
theorem rch_layK (hM : ∀ q, Rch st p q → q < M) {q : Nat} (h : Rch st p q) : ∃ n, q ∈ layK st M p n := by
  refine (h.closed (S := fun q => Rch st p q ∧ ∃ n, q ∈ layK st M p n) (fun q r hq hr => ?_) ⟨.refl _, 0, by simp [layK]⟩).2
  obtain ⟨h1, n, hn⟩ := hq
  exact ⟨h1.snoc hr, n + 1, mem_nextK.2 ⟨hM _ (h1.snoc hr), q, hn, hr⟩⟩
end
section
variable {a b N z : Nat}
/-- A jump removes one peg. -/
theorem step_pegs (ho : Ok (a : Int) (b : Int) N z) {q r : Nat} (h : r ∈ stepL false (lnsOf (a : Int) b z) q) : pc 49 r + 1 = pc 49 q := by
  obtain ⟨hN, ha, -, -, -, h49⟩ := ho.nat
  obtain ⟨l, hl, hh, hr⟩ := mem_step.1 h
  rw [lnsOf_ok ho] at hl
  obtain ⟨f, o, t, S⟩ := mem_at hN ha hl
  obtain ⟨e1, e2⟩ := hit_at (back := false) (p := q) S
  rw [e1] at hh
  rw [e2, Int.toNat_natCast] at hr
  have f1 := S.fN; have o1 := S.oN; have t1 := S.tN
  have := pc_flip (n := 49) S.fo S.ft S.ot (by omega) (by omega) (by omega) (by simpa using hh)
  rw [hr] at this
  exact this
theorem lay_pegs (ho : Ok (a : Int) (b : Int) N z) {M p n q : Nat} (h : q ∈ layK (stepL false (lnsOf (a : Int) b z)) M p n) : pc 49 q + n = pc 49 p := by
  induction n generalizing q with
  | zero => simp [layK] at h; subst h; exact Nat.add_zero _
  | succ n ih =>
    obtain ⟨-, r, hr, hq⟩ := mem_nextK.1 h
    have h1 := ih hr
    have h2 := step_pegs ho hq
    omega
theorem lay_pegs_back (ho : Ok (a : Int) (b : Int) N z) {M g n q : Nat} (h : q ∈ layK (stepL true (lnsOf (a : Int) b z)) M g n) : pc 49 q = pc 49 g + n := by
  induction n generalizing q with
  | zero => simp [layK] at h; subst h; exact (Nat.add_zero _).symm
  | succ n ih =>
    obtain ⟨-, r, hr, hq⟩ := mem_nextK.1 h
    have h1 := ih hr
    have h2 := step_pegs ho ((step_rev ho).1 hq)
    omega
/-- Behind fifty steps there is nothing. -/
theorem lay_none (ho : Ok (a : Int) (b : Int) N z) (back : Bool) {M p : Nat} (n : Nat) (hn : 50 ≤ n) : layK (stepL back (lnsOf (a : Int) b z)) M p n = [] := by
  rw [List.eq_nil_iff_forall_not_mem]
  intro q hq
  cases back
  · have := lay_pegs ho hq
    have := pc_le 49 p
    omega
  · have := lay_pegs_back ho hq
    have := pc_le 49 q
    omega
/-- A position of a layer. -/
theorem lay_mem (ho : Ok (a : Int) (b : Int) N z) {p q n : Nat} (hp : Part p z) : q ∈ layK (stepL false (lnsOf (a : Int) b z)) (2 ^ N) p n ↔ Rch (stepL false (lnsOf (a : Int) b z)) p q ∧ pc 49 q + n = pc 49 p := by
  constructor
  · intro h
    exact ⟨layK_rch h, lay_pegs ho h⟩
  · rintro ⟨h1, h2⟩
    obtain ⟨m, hm⟩ := rch_layK (M := 2 ^ N) (fun q h => part_lt (rch_part ho hp h) ho.zlt) h1
    have := lay_pegs ho hm
    obtain rfl : m = n := by omega
    exact hm
theorem lay_mem_back (ho : Ok (a : Int) (b : Int) N z) {g q n : Nat} (hg : Part g z) : q ∈ layK (stepL true (lnsOf (a : Int) b z)) (2 ^ N) g n ↔ Rch (stepL false (lnsOf (a : Int) b z)) q g ∧ pc 49 q = pc 49 g + n := by
  constructor
  · intro h
    exact ⟨(rch_rev ho).1 (layK_rch h), lay_pegs_back ho h⟩
  · rintro ⟨h1, h2⟩
    obtain ⟨m, hm⟩ := rch_layK (M := 2 ^ N) (fun q h => part_lt (rch_part ho hg h) ho.zlt) ((rch_rev ho).2 h1)
    have := lay_pegs_back ho hm
    obtain rfl : m = n := by omega
    exact hm
/-- A game to the goal passes every number of pegs between. -/
theorem lay_pass (ho : Ok (a : Int) (b : Int) N z) {p g : Nat} (h : Rch (stepL false (lnsOf (a : Int) b z)) p g) (n : Nat) (hn : pc 49 g + n ≤ pc 49 p) : ∃ q, Rch (stepL false (lnsOf (a : Int) b z)) p q ∧ Rch (stepL false (lnsOf (a : Int) b z)) q g ∧ pc 49 q + n = pc 49 p := by
  induction n with
  | zero => exact ⟨p, .refl _, h, Nat.add_zero _⟩
  | succ n ih =>
    obtain ⟨q, h1, h2, h3⟩ := ih (by omega)
    obtain ⟨k, hk⟩ := h2
    cases k with
    | zero =>
      simp [rchK] at hk
      subst hk
      omega
    | succ k =>
      simp only [rchK, Bool.or_eq_true, List.any_eq_true, beq_iff_eq] at hk
      rcases hk with hk | ⟨r, hr, hk⟩
      · subst hk; omega
      · have := step_pegs ho hr
        exact ⟨r, h1.snoc hr, ⟨k, hk⟩, by omega⟩
end
/-- The layer of n steps. -/
def layL (back : Bool) (W H Z P n : Int) : List Nat := if (smallB W H Z && posB W H Z P && decide (0 ≤ n)) = true then layK (stepL back (lnsOf W H Z)) (2 ^ (W * H).toNat) P.toNat n.toNat else []
theorem layL_no {back : Bool} {W H Z P n : Int} (h : (smallB W H Z && posB W H Z P && decide (0 ≤ n)) = false) : layL back W H Z P n = [] := by unfold layL; rw [h]; rfl
theorem layL_yes {back : Bool} {a b N z p : Nat} (ho : Ok (a : Int) (b : Int) N z) (h16 : N ≤ 16) (hp : Part p z) (n : Nat) : layL back (a : Int) b z (p : Int) (n : Int) = layK (stepL back (lnsOf (a : Int) b z)) (2 ^ N) p n := by
  have S : Small5 (a : Int) b z (p : Int) a b N z p := ⟨rfl, rfl, rfl, rfl, ho, h16, hp⟩
  have hN := ho.nat.1
  unfold layL
  rw [S.small, S.pos, show decide ((0 : Int) ≤ (n : Int)) = true by simp]
  simp only [Bool.and_true, if_true, Int.toNat_natCast]
  rw [show ((a : Int) * (b : Int)).toNat = N by rw [← Int.natCast_mul, hN, Int.toNat_natCast]]
theorem layL_up (back : Bool) (W H Z P n : Int) : (layL back W H Z P n).Pairwise (· < ·) := by
  unfold layL
  split
  · exact layK_up _
  · exact List.Pairwise.nil
theorem layL_len (back : Bool) (W H Z P n : Int) : (layL back W H Z P n).length ≤ 65536 := by
  cases h : (smallB W H Z && posB W H Z P && decide (0 ≤ n))
  · rw [layL_no h]; simp
  · simp only [Bool.and_eq_true, decide_eq_true_eq] at h
    obtain ⟨⟨h1, h2⟩, h3⟩ := h
    obtain ⟨a, b, N, z, p, S⟩ := small5 h1 h2
    obtain ⟨rfl, rfl, rfl, rfl, ho, h16, hp⟩ := S
    obtain ⟨m, rfl⟩ := Int.eq_ofNat_of_zero_le h3
    rw [layL_yes ho h16 hp m]
    exact Nat.le_trans (layK_len (part_lt hp ho.zlt) m) (Nat.pow_le_pow_right (by decide) h16)
/-- Two lists gone through at once: what is still to come. -/
def comF (a c : List Int) : Nat → Nat → Nat → List Int → List Int
  | 0, _, _, out => out
  | f + 1, i, k, out => match a[i]?, c[k]? with
    | some x, some y => if x < y then comF a c f (i + 1) k out else if y < x then comF a c f i (k + 1) out else comF a c f (i + 1) (k + 1) (if out.getLast? = some x then out else out ++ [x])
    | _, _ => out
def commL (a c : List Int) : List Int := comF a c (a.length + c.length) 0 0 []
theorem comF_end {a c : List Int} {f i k : Nat} {out : List Int} (h : a.length ≤ i ∨ c.length ≤ k) : comF a c f i k out = out := by
  cases f with
  | zero => rfl
  | succ f =>
    unfold comF
    rcases h with h | h
    · rw [List.getElem?_eq_none h]
    · rw [List.getElem?_eq_none h]
      cases a[i]? <;> rfl
theorem comF_step {a c : List Int} {f i k : Nat} {out : List Int} {x y : Int} (hx : a[i]? = some x) (hy : c[k]? = some y) :
    comF a c (f + 1) i k out = if x < y then comF a c f (i + 1) k out else if y < x then comF a c f i (k + 1) out else comF a c f (i + 1) (k + 1) (if out.getLast? = some x then out else out ++ [x]) := by
  rw [comF, hx, hy]
theorem comF_sub {a c : List Int} (f : Nat) : ∀ (i k : Nat) (out : List Int), (∀ x ∈ out, x ∈ a ∧ x ∈ c) → ∀ x ∈ comF a c f i k out, x ∈ a ∧ x ∈ c := by
  induction f with
  | zero => exact fun i k out h => h
  | succ f ih =>
    intro i k out h
    cases hx : a[i]? with
    | none => rw [comF_end (.inl (by simpa using hx))]; exact h
    | some x =>
      cases hy : c[k]? with
      | none => rw [comF_end (.inr (by simpa using hy))]; exact h
      | some y =>
        rw [comF_step hx hy]
        split
        · exact ih _ _ _ h
        · split
          · exact ih _ _ _ h
          · refine ih _ _ _ fun u hu => ?_
            obtain rfl : x = y := by omega
            split at hu
            · exact h u hu
            · rcases List.mem_append.1 hu with hu | hu
              · exact h u hu
              · rw [List.mem_singleton.1 hu]
                exact ⟨List.mem_of_getElem? hx, List.mem_of_getElem? hy⟩
theorem comF_more {a c : List Int} (f : Nat) : ∀ (i k : Nat) (out : List Int), ∀ x ∈ out, x ∈ comF a c f i k out := by
  induction f with
  | zero => exact fun i k out x h => h
  | succ f ih =>
    intro i k out u hu
    cases hx : a[i]? with
    | none => rw [comF_end (.inl (by simpa using hx))]; exact hu
    | some x =>
      cases hy : c[k]? with
      | none => rw [comF_end (.inr (by simpa using hy))]; exact hu
      | some y =>
        rw [comF_step hx hy]
        split
        · exact ih _ _ _ u hu
        · split
          · exact ih _ _ _ u hu
          · refine ih _ _ _ u ?_
            split
            · exact hu
            · exact List.mem_append_left _ hu
/-- Where both lists ascend, what is in both is taken. -/
theorem comF_get {a c : List Int} (ha : a.Pairwise (· < ·)) (hc : c.Pairwise (· < ·)) {u : Int} (f : Nat) : ∀ (i k : Nat) (out : List Int) (m n : Nat), a[m]? = some u → c[n]? = some u → i ≤ m → k ≤ n → a.length + c.length ≤ f + i + k → u ∈ comF a c f i k out := by
  have key : ∀ {l : List Int}, l.Pairwise (· < ·) → ∀ {s t : Nat} {v w : Int}, l[s]? = some v → l[t]? = some w → s < t → v < w := fun {l} hl {s t v w} hs ht hst => by
    obtain ⟨h1, rfl⟩ := List.getElem?_eq_some_iff.1 hs
    obtain ⟨h2, rfl⟩ := List.getElem?_eq_some_iff.1 ht
    exact List.pairwise_iff_getElem.1 hl s t h1 h2 hst
  induction f with
  | zero =>
    intro i k out m n hm hn him hkn hf
    have h1 := (List.getElem?_eq_some_iff.1 hm).1
    have h2 := (List.getElem?_eq_some_iff.1 hn).1
    omega
  | succ f ih =>
    intro i k out m n hm hn him hkn hf
    have h1 := (List.getElem?_eq_some_iff.1 hm).1
    have h2 := (List.getElem?_eq_some_iff.1 hn).1
    obtain ⟨x, hx⟩ : ∃ x, a[i]? = some x := ⟨_, List.getElem?_eq_getElem (by omega)⟩
    obtain ⟨y, hy⟩ : ∃ y, c[k]? = some y := ⟨_, List.getElem?_eq_getElem (by omega)⟩
    have hxu : x ≤ u := by
      rcases Nat.lt_or_ge i m with h | h
      · exact Int.le_of_lt (key ha hx hm h)
      · obtain rfl : i = m := by omega
        rw [hx] at hm; injection hm with hm; omega
    have hyu : y ≤ u := by
      rcases Nat.lt_or_ge k n with h | h
      · exact Int.le_of_lt (key hc hy hn h)
      · obtain rfl : k = n := by omega
        rw [hy] at hn; injection hn with hn; omega
    rw [comF_step hx hy]
    split
    · refine ih _ _ _ m n hm hn ?_ hkn (by omega)
      rcases Nat.lt_or_ge i m with h | h
      · exact h
      · exfalso
        obtain rfl : i = m := by omega
        rw [hx] at hm; injection hm with hm; omega
    · split
      · refine ih _ _ _ m n hm hn him ?_ (by omega)
        rcases Nat.lt_or_ge k n with h | h
        · exact h
        · exfalso
          obtain rfl : k = n := by omega
          rw [hy] at hn; injection hn with hn; omega
      · obtain rfl : x = y := by omega
        by_cases hu : x = u
        · subst hu
          refine comF_more f _ _ _ _ ?_
          split
          · next h => exact List.mem_of_getLast? h
          · simp
        · have him' : i < m := by
            rcases Nat.lt_or_ge i m with h | h
            · exact h
            · exfalso
              obtain rfl : i = m := by omega
              rw [hx] at hm; injection hm with hm; omega
          have hkn' : k < n := by
            rcases Nat.lt_or_ge k n with h | h
            · exact h
            · exfalso
              obtain rfl : k = n := by omega
              rw [hy] at hn; injection hn with hn; omega
          exact ih _ _ _ m n hm hn him' hkn' (by omega)
theorem comF_len {a c : List Int} (f : Nat) : ∀ (i k : Nat) (out : List Int), (comF a c f i k out).length ≤ out.length + (a.length - i) := by
  induction f with
  | zero => exact fun i k out => by simp [comF]
  | succ f ih =>
    intro i k out
    cases hx : a[i]? with
    | none => rw [comF_end (.inl (by simpa using hx))]; omega
    | some x =>
      have h1 := (List.getElem?_eq_some_iff.1 hx).1
      cases hy : c[k]? with
      | none => rw [comF_end (.inr (by simpa using hy))]; omega
      | some y =>
        rw [comF_step hx hy]
        split
        · have := ih (i + 1) k out; omega
        · split
          · have := ih i (k + 1) out; omega
          · have := ih (i + 1) (k + 1) (if out.getLast? = some x then out else out ++ [x])
            have h2 : (if out.getLast? = some x then out else out ++ [x]).length ≤ out.length + 1 := by split <;> simp
            omega
theorem commL_len (a c : List Int) : (commL a c).length ≤ a.length := by
  have := comF_len (a := a) (c := c) (a.length + c.length) 0 0 []
  simpa [commL] using this
theorem mem_comm {a c : List Int} (ha : a.Pairwise (· < ·)) (hc : c.Pairwise (· < ·)) {u : Int} : u ∈ commL a c ↔ u ∈ a ∧ u ∈ c := by
  constructor
  · exact comF_sub _ 0 0 [] (fun x h => by cases h) u
  · rintro ⟨h1, h2⟩
    obtain ⟨m, hm⟩ := List.mem_iff_getElem?.1 h1
    obtain ⟨n, hn⟩ := List.mem_iff_getElem?.1 h2
    exact comF_get ha hc _ 0 0 [] m n hm hn (Nat.zero_le _) (Nat.zero_le _) (by omega)
/-- The ints of a list of numbers. -/
def il (l : List Nat) : List Int := List.map (fun (q : Nat) => (q : Int)) l
theorem il_up {l : List Nat} (h : l.Pairwise (· < ·)) : (il l).Pairwise (· < ·) := List.Pairwise.map _ (fun a b (h : a < b) => by omega) h
theorem mem_il {l : List Nat} {q : Nat} : (q : Int) ∈ il l ↔ q ∈ l := by
  unfold il
  rw [List.mem_map]
  exact ⟨fun ⟨a, h, e⟩ => by obtain rfl : a = q := by omega
                             exact h, fun h => ⟨q, h, rfl⟩⟩
/-- Where the layers of both ends meet. -/
def meetL (W H Z P G n : Int) : List Int := if (smallB W H Z && posB W H Z P && posB W H Z G && decide (0 ≤ n ∧ n ≤ countB W H Z P - countB W H Z G)) = true then commL (il (layL false W H Z P n)) (il (layL true W H Z G (countB W H Z P - countB W H Z G - n))) else []
/-- The widest of the layers 0 to n, and its width. -/
def widK (len : Nat → Nat) : Nat → Nat × Nat
  | 0 => (0, len 0)
  | n + 1 => if (widK len n).2 < len (n + 1) then (n + 1, len (n + 1)) else widK len n
def widB (W H Z P : Int) : Int := if (smallB W H Z && posB W H Z P) = true then ((widK (fun n => (layL false W H Z P (n : Int)).length) 50).1 : Int) else -1
theorem widK_is (len : Nat → Nat) (n : Nat) : (widK len n).1 ≤ n ∧ len (widK len n).1 = (widK len n).2 ∧ ∀ m, m ≤ n → len m ≤ (widK len n).2 := by
  induction n with
  | zero => exact ⟨Nat.le_refl _, rfl, fun m hm => by obtain rfl : m = 0 := by omega
                                                      exact Nat.le_refl _⟩
  | succ n ih =>
    obtain ⟨h1, h2, h3⟩ := ih
    unfold widK
    split
    · next h =>
      refine ⟨Nat.le_refl _, rfl, fun m hm => ?_⟩
      rcases Nat.lt_or_ge m (n + 1) with h' | h'
      · have := h3 m (by omega)
        show len m ≤ len (n + 1)
        omega
      · obtain rfl : m = n + 1 := by omega
        exact Nat.le_refl _
    · next h =>
      refine ⟨by omega, h2, fun m hm => ?_⟩
      rcases Nat.lt_or_ge m (n + 1) with h' | h'
      · exact h3 m (by omega)
      · obtain rfl : m = n + 1 := by omega
        omega
/-- Behind an empty layer there is none that is wider. -/
theorem widK_stop {len : Nat → Nat} {n : Nat} (h : ∀ m, n < m → len m = 0) (k : Nat) : widK len (n + k) = widK len n := by
  induction k with
  | zero => rfl
  | succ k ih =>
    have e : widK len (n + k + 1) = if (widK len (n + k)).2 < len (n + k + 1) then (n + k + 1, len (n + k + 1)) else widK len (n + k) := rfl
    rw [show n + (k + 1) = n + k + 1 from rfl, e, h (n + k + 1) (by omega), if_neg (Nat.not_lt_zero _), ih]
end Go.Proofs.Ytgkmapemnlgldaa
