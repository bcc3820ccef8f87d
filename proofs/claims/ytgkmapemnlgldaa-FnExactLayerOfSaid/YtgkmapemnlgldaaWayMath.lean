/- Ways: the first game that leads to a goal, the good jumps, a jump that spoils; the marks of a search backwards; of no program. -/
import Derived.Test.YtgkmapemnlgldaaReachFacts
import Derived.Test.YtgkmapemnlgldaaGames
import Derived.Test.YtgkmapemnlgldaaJumps
namespace Go.Proofs.Ytgkmapemnlgldaa
set_option linter.unusedVariables false
section
variable {a b N z : Nat}
/-- An undone jump is a jump backwards. -/
theorem step_rev (ho : Ok (a : Int) (b : Int) N z) {q r : Nat} : r ∈ stepL true (lnsOf a b z) q ↔ q ∈ stepL false (lnsOf a b z) r := by
  obtain ⟨hN, ha, -, -, -, -⟩ := ho.nat
  constructor
  · intro h
    obtain ⟨l, hl, hh, hr⟩ := mem_step.1 h
    have hl' := hl
    rw [lnsOf_ok ho] at hl'
    obtain ⟨f, o, t, S⟩ := mem_at hN ha hl'
    obtain ⟨e1, e2⟩ := hit_at (back := true) (p := q) S
    rw [e1] at hh
    simp only [if_true] at hh
    rw [e2, Int.toNat_natCast] at hr
    refine mem_step.2 ⟨l, hl, ?_, ?_⟩
    · rw [(hit_at (back := false) (p := r) S).1, ← hr]; simpa using bef_flip hh
    · rw [(hit_at (back := false) (p := r) S).2, ← hr, flip_flip, Int.toNat_natCast]
  · intro h
    obtain ⟨l, hl, hh, hr⟩ := mem_step.1 h
    have hl' := hl
    rw [lnsOf_ok ho] at hl'
    obtain ⟨f, o, t, S⟩ := mem_at hN ha hl'
    obtain ⟨e1, e2⟩ := hit_at (back := false) (p := r) S
    rw [e1] at hh
    simp only [Bool.false_eq_true, if_false] at hh
    rw [e2, Int.toNat_natCast] at hr
    refine mem_step.2 ⟨l, hl, ?_, ?_⟩
    · rw [(hit_at (back := true) (p := q) S).1, ← hr]; simpa using aft_flip hh
    · rw [(hit_at (back := true) (p := q) S).2, ← hr, flip_flip, Int.toNat_natCast]
theorem rch_rev (ho : Ok (a : Int) (b : Int) N z) {g q : Nat} : Rch (stepL true (lnsOf a b z)) g q ↔ Rch (stepL false (lnsOf a b z)) q g :=
  ⟨fun h => h.closed (S := fun x => Rch (stepL false (lnsOf a b z)) x g) (fun _ _ hq hr => .cons ((step_rev ho).1 hr) hq) (.refl g),
   fun h => h.closed (S := fun x => Rch (stepL true (lnsOf a b z)) x q) (fun _ _ hq hr => .cons ((step_rev ho).2 hr) hq) (.refl q)⟩
/-- The marks of a search backwards from a goal: from where it is reached. -/
theorem back_reach (ho : Ok (a : Int) (b : Int) N z) (h16 : N ≤ 16) {g q : Nat} (hg : Part g z) (hq : Part q z) : seenB true (a : Int) b z g q = reachB false (a : Int) b z q g := by
  have hs : smallB (a : Int) b z = true := by
    simp only [smallB, Bool.and_eq_true, decide_eq_true_eq]
    refine ⟨ho.ok, ?_⟩
    have h1 := ho.nat.1
    rw [← Int.natCast_mul, h1]
    omega
  unfold reachB seenB
  rw [hs, pos_of ho hq, pos_of ho hg, Int.toNat_natCast, Int.toNat_natCast, Bool.eq_iff_iff]
  simp only [Bool.true_and]
  rw [rchB_iff (step_rank (back := true) ho) (rank_le true), rchB_iff (step_rank (back := false) ho) (rank_le false), rch_rev ho]
end
/-- The first jump after which the goal can be reached. -/
def nextL (W H Z G P : Int) : Option Ln := (jumpsL W H Z P).find? fun l => reachB false W H Z (flipL P l) G
def wayF (W H Z G : Int) : Nat → Int → List Ln
  | 0, _ => []
  | k + 1, P => if P = G then [] else
    match nextL W H Z G P with
    | none => []
    | some l => l :: wayF W H Z G k (flipL P l)
def wayB (W H Z P G : Int) : List Ln × Bool := if reachB false W H Z P G = true then (wayF W H Z G 49 P, true) else ([], false)
def oneWayB (W H Z P : Int) : List Ln × Bool := match finL W H Z P with
  | [] => ([], false)
  | k :: _ => wayB W H Z P (2 ^ k)
def betwB (W H Z P G : Int) : Int := if reachB false W H Z P G = true then countB W H Z P - countB W H Z G else -1
def goodL (W H Z P G : Int) : List Ln := (jumpsL W H Z P).filter fun l => reachB false W H Z (flipL P l) G
def spoilB (W H Z P G : Int) (l : Ln) : Bool := reachB false W H Z P G && jumpB W H Z P l && !reachB false W H Z (flipL P l) G
theorem reachB_no {W H Z P G : Int} (h : (smallB W H Z && posB W H Z P && posB W H Z G) = false) : reachB false W H Z P G = false := by unfold reachB; rw [h]; rfl
theorem goodL_no {W H Z P G : Int} (h : (smallB W H Z && posB W H Z P && posB W H Z G) = false) : goodL W H Z P G = [] := by
  unfold goodL
  rw [List.filter_eq_nil_iff]
  intro l hl hr
  have hj := jumpsL_mem.1 hl
  have hp := (jump_parts hj).1
  simp only [reachB, Bool.and_eq_true] at hr
  rw [hr.1.1.1, hp, hr.1.2] at h
  cases h
theorem wayB_no {W H Z P G : Int} (h : reachB false W H Z P G = false) : wayB W H Z P G = ([], false) := by unfold wayB; rw [h]; simp
theorem wayB_yes {W H Z P G : Int} (h : reachB false W H Z P G = true) : wayB W H Z P G = (wayF W H Z G 49 P, true) := by unfold wayB; rw [h]; rfl
theorem wayF_at (W H Z G : Int) (k : Nat) : wayF W H Z G k G = [] := by cases k <;> simp [wayF]
section
variable {W H Z P : Int} {a b N z p : Nat}
/-- What is reached is a position whose number is natural. -/
theorem Small5.nat_of (S : Small5 W H Z P a b N z p) {G : Int} (h : reachB false W H Z P G = true) : ∃ g : Nat, G = g ∧ g ∈ reachL false W H Z P := by
  have h' := h
  simp only [reachB, Bool.and_eq_true] at h
  obtain ⟨N', z', g, -, rfl, -, -⟩ := pos_yes h.1.2
  exact ⟨g, rfl, reach_mem.2 h'⟩
/-- Where the goal is not yet, there is a first jump, behind which it is reached, with one peg less. -/
theorem Small5.next (S : Small5 W H Z P a b N z p) {G : Int} (h : reachB false W H Z P G = true) (hne : P ≠ G) : ∃ l, ∃ r : Nat, nextL W H Z G P = some l ∧ jumpB W H Z P l = true ∧ flipL P l = r ∧ Small5 W H Z (r : Int) a b N z r ∧ reachB false W H Z (r : Int) G = true ∧ pc 49 r + 1 = pc 49 p := by
  obtain ⟨g, rfl, hg⟩ := S.nat_of h
  have hpg : p ≠ g := fun e => hne (by rw [S.eP, e])
  have hR := S.mem.1 hg
  obtain ⟨r, hr, hrg⟩ : ∃ r ∈ stepL false (lnsOf a b z) p, Rch (stepL false (lnsOf a b z)) r g := by
    obtain ⟨k, hk⟩ := hR
    cases k with
    | zero => simp [rchK] at hk; exact absurd hk hpg
    | succ k =>
      simp only [rchK, Bool.or_eq_true, List.any_eq_true, beq_iff_eq] at hk
      rcases hk with hk | ⟨x, hx, hk⟩
      · exact absurd hk hpg
      · exact ⟨x, hx, k, hk⟩
  obtain ⟨l0, hj0, hf0, -⟩ := S.step S.part hr
  rw [← S.eP] at hj0 hf0
  have hS : (nextL W H Z (g : Int) P).isSome = true := by
    unfold nextL
    rw [List.find?_isSome]
    refine ⟨l0, jumpsL_mem.2 hj0, ?_⟩
    rw [hf0]
    refine reach_mem.1 ?_
    have S' := S.at (S.mem.2 ((Rch.refl p).snoc hr))
    exact S'.mem.2 hrg
  obtain ⟨l, hl⟩ := Option.isSome_iff_exists.1 hS
  have hl' := hl
  unfold nextL at hl'
  have hj := jumpsL_mem.1 (List.mem_of_find?_eq_some hl')
  have hgd := List.find?_some hl'
  rw [S.eP] at hj
  obtain ⟨r', hf, hr'⟩ := S.jump S.self hj
  have S' := S.at hr'
  have hrk : pc 49 r' + 1 = pc 49 p := by
    obtain ⟨-, hc, hb⟩ := jump_parts hj
    rw [S.eW, S.eH, S.eZ, List.contains_iff_mem] at hc
    obtain ⟨f, o, t, T⟩ := S.line hc
    have n49 := S.ok.n49
    obtain ⟨e1, e2⟩ := hit_at (back := false) (p := p) T
    have hfl : r' = flipN p f o t := by
      have := hf.symm.trans e2
      omega
    simp only [hitL, Bool.false_eq_true, if_false] at e1
    rw [hb] at e1
    have f1 := T.fN; have o1 := T.oN; have t1 := T.tN
    have hN := S.ok.nat.1
    have := pc_flip (n := 49) T.fo T.ft T.ot (by omega) (by omega) (by omega) e1.symm
    rw [← hfl] at this
    exact this
  rw [← S.eP] at hj hf
  exact ⟨l, r', hl, hj, hf, S', by rw [← hf]; exact hgd, hrk⟩
theorem Small5.fuel (S : Small5 W H Z P a b N z p) {g : Nat} (h : reachB false W H Z P (g : Int) = true) : pc 49 g ≤ pc 49 p := by
  obtain ⟨g', e, hg⟩ := S.nat_of h
  obtain rfl : g = g' := by omega
  exact (S.pegs hg).1
end
/-- The way is a game to the goal, as long as the pegs that it removes. -/
theorem way_run {W H Z : Int} {a b N z g : Nat} (k : Nat) : ∀ (P : Int) (p : Nat), Small5 W H Z P a b N z p → reachB false W H Z P (g : Int) = true → pc 49 p ≤ pc 49 g + k →
    runO (doB W H Z) P (wayF W H Z (g : Int) k P) = some (g : Int) ∧ (wayF W H Z (g : Int) k P).length + pc 49 g = pc 49 p := by
  induction k with
  | zero =>
    intro P p S h hk
    obtain ⟨g', e, hg⟩ := S.nat_of h
    obtain rfl : g = g' := by omega
    have h1 := S.pegs hg
    have e := h1.2 (by omega)
    have e2 := S.eP
    subst e e2
    exact ⟨rfl, by simp [wayF]⟩
  | succ k ih =>
    intro P p S h hk
    by_cases e : P = (g : Int)
    · have e2 := S.eP
      have : p = g := by omega
      subst this e2
      rw [wayF_at]
      exact ⟨rfl, by simp⟩
    · obtain ⟨l, r, h1, h2, h3, S', h4, h5⟩ := S.next h e
      have hw : wayF W H Z (g : Int) (k + 1) P = l :: wayF W H Z (g : Int) k (r : Int) := by
        simp only [wayF, e, if_false, h1, h3]
      obtain ⟨i1, i2⟩ := ih _ _ S' h4 (by omega)
      rw [hw]
      refine ⟨?_, by simp only [List.length_cons]; omega⟩
      rw [runO_cons]
      have : stO (doB W H Z) (some P) l = some (r : Int) := by
        unfold stO
        simp [do_yes h2, h3]
      rw [this]
      exact i1
theorem wayF_le (W H Z G : Int) : ∀ (k : Nat) (P : Int), (wayF W H Z G k P).length ≤ k
  | 0, P => by simp [wayF]
  | k + 1, P => by
    simp only [wayF]
    split
    · simp
    · split
      · simp
      · have := wayF_le W H Z G k (flipL P ‹Ln›)
        simp only [List.length_cons]; omega
theorem way_le (W H Z P G : Int) : (wayB W H Z P G).1.length ≤ 49 := by
  unfold wayB
  split
  · exact wayF_le ..
  · simp
theorem oneWay_le (W H Z P : Int) : (oneWayB W H Z P).1.length ≤ 49 := by
  unfold oneWayB
  split
  · simp
  · exact way_le ..
theorem goodL_le (W H Z P G : Int) : (goodL W H Z P G).length ≤ 196 := Nat.le_trans (List.length_filter_le ..) (jumpsL_le W H Z P)
theorem way_snd (W H Z P G : Int) : (wayB W H Z P G).2 = reachB false W H Z P G := by
  cases h : reachB false W H Z P G
  · rw [wayB_no h]
  · rw [wayB_yes h]
section
variable {W H Z P : Int} {a b N z p : Nat}
/-- What the law FnWays asks, of a goal. -/
structure WayFacts (W H Z P : Int) (g : Nat) (ws gs : List Ln) (n : Int) (can : Bool) : Prop where
  sol : can = true → solB W H Z P g ws = true ∧ n = ws.length
  num : (decide (0 ≤ n)) = can
  good : decide (0 < gs.length) = (can && !(P == (g : Int)))
  head : ws = [] ∨ ∃ l ws' gs', ws = l :: ws' ∧ gs = l :: gs'
theorem Small5.ways (S : Small5 W H Z P a b N z p) {g : Nat} (hg : posB W H Z (g : Int) = true) : WayFacts W H Z P g (wayB W H Z P g).1 (goodL W H Z P g) (betwB W H Z P g) (reachB false W H Z P (g : Int)) := by
  have hgood : ∀ l, l ∈ goodL W H Z P (g : Int) → reachB false W H Z P (g : Int) = true ∧ P ≠ (g : Int) := fun l hl => by
    unfold goodL at hl
    obtain ⟨hj, hr⟩ := List.mem_filter.1 hl
    have hj := jumpsL_mem.1 hj
    rw [S.eP] at hj hr
    obtain ⟨r, hf, hr'⟩ := S.jump S.self hj
    rw [hf] at hr
    have S' := S.at hr'
    have hm := S.more hr' (reach_mem.2 hr)
    refine ⟨reach_mem.1 hm, fun e => ?_⟩
    have hgp : g = p := by have := S.eP; omega
    subst hgp
    have h1 := (S'.pegs (reach_mem.2 hr)).1
    have h2 := S.pegs hr'
    have h3 : pc 49 r = pc 49 g := by omega
    have h4 := h2.2 h3
    subst h4
    have hb := (jump_parts hj).2.2
    obtain ⟨-, hc, -⟩ := jump_parts hj
    rw [S.eW, S.eH, S.eZ, List.contains_iff_mem] at hc
    obtain ⟨f, o, t, T⟩ := S.line hc
    have n49 := S.ok.n49
    have hN := S.ok.nat.1
    obtain ⟨e1, e2⟩ := hit_at (back := false) (p := r) T
    simp only [hitL, Bool.false_eq_true, if_false] at e1
    rw [hb] at e1
    have f1 := T.fN; have o1 := T.oN; have t1 := T.tN
    have := pc_flip (n := 49) T.fo T.ft T.ot (by omega) (by omega) (by omega) e1.symm
    have e3 := hf.symm.trans e2
    have e4 : r = flipN r f o t := by omega
    rw [← e4] at this
    omega
  cases hc : reachB false W H Z P (g : Int)
  · refine ⟨fun h => (by cases h), ?_, ?_, .inl (by rw [wayB_no hc])⟩
    · rw [show betwB W H Z P (g : Int) = -1 by unfold betwB; rw [hc]; rfl]; rfl
    · rw [Bool.false_and, decide_eq_false_iff_not]
      intro h0
      obtain ⟨l, hl⟩ := List.exists_mem_of_length_pos h0
      have := (hgood l hl).1
      rw [hc] at this
      cases this
  · obtain ⟨r1, r2⟩ := way_run 49 P p S hc (by have := pc_le 49 p; omega)
    have hn : betwB W H Z P (g : Int) = ((wayF W H Z (g : Int) 49 P).length : Int) := by
      have h1 := count_pos (W := W) (H := H) (Z := Z) (p := p) (by rw [← S.eP]; exact S.pos)
      have h2 := count_pos hg
      unfold betwB
      rw [hc, if_pos rfl, h2, S.eP, h1]
      rw [← S.eP]
      omega
    have hlen : (wayF W H Z (g : Int) 49 P).length ≤ 60 := Nat.le_trans (wayF_le ..) (by decide)
    rw [wayB_yes hc, hn]
    refine ⟨fun _ => ⟨?_, rfl⟩, by rw [decide_eq_true]; omega, ?_, ?_⟩
    · unfold solB playB
      rw [allB_yes S.pos hlen r1]
      simp
    · by_cases e : P = (g : Int)
      · rw [show (P == (g : Int)) = true by simp [e]]
        simp only [Bool.not_true, Bool.and_false, decide_eq_false_iff_not]
        intro h0
        obtain ⟨l, hl⟩ := List.exists_mem_of_length_pos h0
        exact (hgood l hl).2 e
      · obtain ⟨l, r, h1, -⟩ := S.next hc e
        rw [show (P == (g : Int)) = false by simp [e]]
        simp only [Bool.not_false, Bool.and_true, decide_eq_true_eq]
        unfold nextL at h1
        have hm := List.mem_of_find?_eq_some h1
        have hp := List.find?_some h1
        exact List.length_pos_of_mem (List.mem_filter.2 ⟨hm, hp⟩)
    · by_cases e : P = (g : Int)
      · left; rw [e, wayF_at]
      · right
        obtain ⟨l, r, h1, h2, h3, -⟩ := S.next hc e
        have hh : (goodL W H Z P (g : Int)).head? = some l := by
          unfold goodL
          rw [List.head?_filter]; exact h1
        obtain ⟨gs', hgs⟩ := List.head?_eq_some_iff.1 hh
        refine ⟨l, wayF W H Z (g : Int) 48 (flipL P l), gs', ?_, hgs⟩
        show wayF W H Z (g : Int) (48 + 1) P = _
        simp only [wayF, e, if_false, h1]
/-- A jump of the position: whether the goal is spoiled. -/
theorem Small5.spoil (S : Small5 W H Z P a b N z p) {g : Nat} {l : Ln} (hl : l ∈ jumpsL W H Z P) : spoilB W H Z P (g : Int) l = (reachB false W H Z P (g : Int) && !reachB false W H Z (flipL P l) (g : Int)) := by
  unfold spoilB
  rw [jumpsL_mem.1 hl, Bool.and_true]
/-- A way to a single peg. -/
theorem Small5.oneWay (S : Small5 W H Z P a b N z p) : (oneWayB W H Z P).2 = decide (0 < (finL W H Z P).length) ∧ ((oneWayB W H Z P).2 = true → ((oneWayB W H Z P).1.length : Int) = countB W H Z P - 1) := by
  unfold oneWayB
  cases hf : finL W H Z P with
  | nil => exact ⟨rfl, fun h => by cases h⟩
  | cons k l =>
    have hk : k ∈ finL W H Z P := by rw [hf]; exact List.mem_cons_self ..
    unfold finL at hk
    obtain ⟨hk1, hk2⟩ := List.mem_filter.1 hk
    have hm := reach_mem.1 (of_decide_eq_true hk2)
    have hk49 := holesR_lt hk1
    have e : ((2 : Int) ^ k) = ((2 ^ k : Nat) : Int) := by simp
    simp only [e]
    rw [wayB_yes hm]
    refine ⟨by simp, fun _ => ?_⟩
    have := (way_run 49 P p S hm (by have := pc_le 49 p; omega)).2
    rw [pc_one hk49] at this
    have h1 : countB W H Z P = (pc 49 p : Nat) := by
      have := count_pos (W := W) (H := H) (Z := Z) (p := p) (by rw [← S.eP]; exact S.pos)
      rw [← this, S.eP]
    rw [h1]
    show ((wayF W H Z ((2 ^ k : Nat) : Int) 49 P).length : Int) = _
    omega
end
end Go.Proofs.Ytgkmapemnlgldaa
