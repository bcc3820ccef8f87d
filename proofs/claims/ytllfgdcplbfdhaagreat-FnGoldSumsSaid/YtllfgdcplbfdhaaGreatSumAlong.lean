/- Sums of weights along jumps: over the pegs of a position; what a jump changes of it; the golden sum never grows; of no program. -/
import Derived.Test.YtllfgdcplbfdhaaGreatGoldOrder
import Derived.Test.YtllfgdcplbfdhaaGreatStepMath
import Derived.Test.YtllfgdcplbfdhaaGreatClasses
import Derived.Test.YtllfgdcplbfdhaaGreatReachFacts
namespace Go.Proofs.YtllfgdcplbfdhaaGreat
set_option linter.unusedVariables false
/-- A sum over the pegs of a position. -/
def sumF (g : Nat → Int) (p : Nat) : Nat → Int
  | 0 => 0
  | k + 1 => sumF g p k + (if bit p k then g k else 0)
theorem sumF_next (g : Nat → Int) (p k : Nat) : sumF g p (k + 1) = sumF g p k + (if bit p k then g k else 0) := rfl
theorem sumF_put (g : Nat → Int) (p j : Nat) (hj : bit p j = false) : ∀ k, sumF g (putB p j) k = sumF g p k + (if j < k then g j else 0)
  | 0 => by simp [sumF]
  | k + 1 => by
    rw [sumF_next, sumF_next, sumF_put g p j hj k, bit_put]
    by_cases e : j = k
    · subst e
      rw [hj]
      simp
    · by_cases h : j < k
      · rw [if_pos h, if_pos (show j < k + 1 by omega), decide_eq_false e, Bool.or_false]; omega
      · rw [if_neg h, if_neg (show ¬ j < k + 1 by omega), decide_eq_false e, Bool.or_false]; omega
theorem sumF_drop (g : Nat → Int) {p j k : Nat} (hj : bit p j = true) (h : j < k) : sumF g (dropB p j) k = sumF g p k - g j := by
  have h1 := sumF_put g (dropB p j) j (by rw [bit_drop]; simp) k
  have h2 : putB (dropB p j) j = p := eq_of_bits fun i => by
    rw [bit_put, bit_drop]
    by_cases e : j = i
    · subst e; simp [hj]
    · simp [e]
  rw [h2, if_pos h] at h1
  omega
/-- What a jump changes. -/
theorem sumF_jump (g : Nat → Int) {p f o t n : Nat} (h1 : f ≠ o) (h2 : f ≠ t) (h3 : o ≠ t) (hf : f < n) (ho : o < n) (ht : t < n) (h : befN p f o t = true) : sumF g (flipN p f o t) n = sumF g p n - g f - g o + g t := by
  simp only [befN, Bool.and_eq_true, Bool.not_eq_true'] at h
  have e : flipN p f o t = putB (dropB (dropB p f) o) t := eq_of_bits fun j => by
    rw [bit_flip, bit_put, bit_drop, bit_drop]
    by_cases j1 : f = j
    · subst j1; simp [h.1.1, h2.symm]
    · by_cases j2 : o = j
      · subst j2; simp [h.1.2, h3.symm]
      · by_cases j3 : t = j
        · subst j3; simp [h.2]
        · simp [j1, j2, j3]
  rw [e, sumF_put g _ t (by rw [bit_drop, bit_drop]; simp [h.2]) n, if_pos ht, sumF_drop g (by rw [bit_drop]; simp [h.1.2, h1]) ho, sumF_drop g h.1.1 hf]
theorem sumF_bits (g : Nat → Int) (p : Nat) : ∀ n, ((bitsOf n p).map g).sum = sumF g p n
  | 0 => rfl
  | n + 1 => by
    rw [sumF_next]
    cases h : bit p n
    · rw [bitsOf_no h, sumF_bits g p n]; simp
    · rw [bitsOf_yes h, List.map_append, List.sum_append, sumF_bits g p n]; simp
theorem sumF_nn {g : Nat → Int} (hg : ∀ k, 0 ≤ g k) (p : Nat) : ∀ n, 0 ≤ sumF g p n
  | 0 => Int.le_refl _
  | n + 1 => by
    have h1 := sumF_nn hg p n
    have h2 := hg n
    rw [sumF_next]
    split <;> omega
theorem sumF_ge {g : Nat → Int} (hg : ∀ k, 0 ≤ g k) {p j : Nat} (hj : bit p j = true) : ∀ n, j < n → g j ≤ sumF g p n
  | 0, h => absurd h (Nat.not_lt_zero _)
  | n + 1, h => by
    rw [sumF_next]
    by_cases e : j = n
    · subst e
      have := sumF_nn hg p j
      rw [if_pos hj]
      omega
    · have h1 := sumF_ge hg hj n (by omega)
      have h2 := hg n
      split <;> omega
/-- What falls along each line falls along each game. -/
theorem Small5.falls {W H Z P : Int} {a b N z p : Nat} (S : Small5 W H Z P a b N z p) {g : Nat → Int} (hg : ∀ f o t : Nat, isLine a b z ((f : Int), (o : Int), (t : Int)) → 0 ≤ g f + g o - g t) {q : Nat} (h : q ∈ reachL false W H Z P) : sumF g q 49 ≤ sumF g p 49 := by
  refine (S.mem.1 h).closed (S := fun q => sumF g q 49 ≤ sumF g p 49) ?_ (Int.le_refl _)
  intro u r hu hr
  obtain ⟨l, hl, hh, rfl⟩ := mem_step.1 hr
  obtain ⟨f, o, t, T⟩ := S.line hl
  obtain ⟨e1, e2⟩ := hit_at (back := false) (p := u) T
  rw [e1] at hh
  simp only [Bool.false_eq_true, if_false] at hh
  obtain ⟨hN, ha, -⟩ := S.ok.nat
  have hn49 := S.ok.n49
  have t1 := T.fN; have t2 := T.oN; have t3 := T.tN
  rw [hN] at t1 t2 t3
  have hi : isLine a b z l := by
    rw [lnsOf_ok S.ok] at hl
    exact (mem_lines hN).1 hl
  rw [T.eq] at hi
  have h1 := hg f o t hi
  rw [e2, Int.toNat_natCast, sumF_jump g T.fo T.ft T.ot (by omega) (by omega) (by omega) hh]
  omega
/- the golden weights -/
theorem dx_sub (a b c d : Int) : dx (a - c) (b - d) = dx a b - dx c d ∧ dy (a - c) (b - d) = dy a b - dy c d := by
  unfold dx dy; omega
theorem pw_nn : ∀ d : Fin 13, 0 ≤ dx (pw d.val).1 (pw d.val).2 ∧ 0 ≤ dy (pw d.val).1 (pw d.val).2 := by decide +kernel
theorem pw_up : ∀ d : Fin 11, 0 ≤ dx (pw d.val).1 (pw d.val).2 + dx (pw (d.val + 1)).1 (pw (d.val + 1)).2 - dx (pw (d.val + 2)).1 (pw (d.val + 2)).2 ∧ 0 ≤ dy (pw d.val).1 (pw d.val).2 + dy (pw (d.val + 1)).1 (pw (d.val + 1)).2 - dy (pw (d.val + 2)).1 (pw (d.val + 2)).2 := by decide +kernel
theorem pw_down : ∀ d : Fin 11, 0 ≤ dx (pw (d.val + 2)).1 (pw (d.val + 2)).2 + dx (pw (d.val + 1)).1 (pw (d.val + 1)).2 - dx (pw d.val).1 (pw d.val).2 ∧ 0 ≤ dy (pw (d.val + 2)).1 (pw (d.val + 2)).2 + dy (pw (d.val + 1)).1 (pw (d.val + 1)).2 - dy (pw d.val).1 (pw d.val).2 := by decide +kernel
theorem pow_nn {n : Int} (h : n ≤ 12) : geB (powG n).1 (powG n).2 := by
  unfold powG
  split
  · next h0 =>
    obtain ⟨m, rfl⟩ := Int.eq_ofNat_of_zero_le h0.1
    exact pw_nn ⟨m, by omega⟩
  · exact ge_zero
theorem powG_nat {n : Nat} (h : n ≤ 12) : powG (n : Int) = pw n := by
  unfold powG
  rw [if_pos (by omega)]
  rfl
/-- Three places in a row and a fourth: their distances. -/
theorem abs_row (x c : Nat) : (absD c (x + 1) = absD c x + 1 ∧ absD c (x + 2) = absD c x + 2) ∨ (absD c x = absD c (x + 1) + 1 ∧ absD c (x + 1) = absD c (x + 2) + 1) ∨ (absD c x = absD c (x + 1) + 1 ∧ absD c (x + 2) = absD c x) := by
  unfold absD; omega
theorem dist_line {a b z T f o t : Nat} (ha : 0 < a) (h : isLine a b z ((f : Int), (o : Int), (t : Int))) :
    (stepsN a T o = stepsN a T f + 1 ∧ stepsN a T t = stepsN a T f + 2) ∨ (stepsN a T f = stepsN a T o + 1 ∧ stepsN a T o = stepsN a T t + 1) ∨ (stepsN a T f = stepsN a T o + 1 ∧ stepsN a T t = stepsN a T f) := by
  obtain ⟨k, o', t', d, hd, -, -, h1, h2, e⟩ := h
  simp only [Prod.mk.injEq] at e
  obtain ⟨e1, e2, e3⟩ := e
  obtain rfl : f = k := by omega
  obtain rfl : o = o' := by omega
  obtain rfl : t = t' := by omega
  have s1 := nbr_xy ha hd (stepN_some h1).1
  have s2 := nbr_xy ha hd (stepN_some h2).1
  unfold StepXY at s1 s2
  unfold stepsN
  generalize T % a = tx at *
  generalize T / a = ty at *
  generalize f % a = fx at *
  generalize f / a = fy at *
  generalize o % a = ox at *
  generalize o / a = oy at *
  generalize t % a = ux at *
  generalize t / a = uy at *
  clear h1 h2 e1 e2 e3 ha
  rcases s1 with ⟨c1, p1, q1⟩ | ⟨c1, p1, q1⟩ | ⟨c1, p1, q1⟩ | ⟨c1, p1, q1⟩ <;> rcases s2 with ⟨c2, p2, q2⟩ | ⟨c2, p2, q2⟩ | ⟨c2, p2, q2⟩ | ⟨c2, p2, q2⟩ <;> first | (exfalso; omega) | skip
  · rw [p2, p1, q2, q1]
    have := abs_row fx tx
    rw [show fx + 1 + 1 = fx + 2 from rfl]
    omega
  · rw [p2, p1, q2, q1]
    have := abs_row fy ty
    rw [show fy + 1 + 1 = fy + 2 from rfl]
    omega
  · rw [q1, q2, p1, p2]
    have := abs_row ux tx
    rw [show ux + 1 + 1 = ux + 2 from rfl]
    omega
  · rw [q1, q2, p1, p2]
    have := abs_row uy ty
    rw [show uy + 1 + 1 = uy + 2 from rfl]
    omega
theorem hole_all {W H Z T : Int} (h : holeB W H Z T = true) : ∃ a b N z k : Nat, W = a ∧ H = b ∧ Z = z ∧ T = k ∧ Ok (a : Int) (b : Int) N z ∧ k < N ∧ bit z k = true := by
  have h0 : okB W H Z = true := by simp only [holeB, Bool.and_eq_true] at h; exact h.1.1
  obtain ⟨a, b, N, z, rfl, rfl, rfl, ho, -⟩ := okAB h0
  obtain ⟨k, rfl, hk, hb⟩ := hole_yes ho h
  exact ⟨a, b, N, z, k, rfl, rfl, rfl, rfl, ho, hk, hb⟩
/-- The coordinates of a place's weight. -/
def gX (W H Z T : Int) (k : Nat) : Int := dx (gwB W H Z T k).1 (gwB W H Z T k).2
def gY (W H Z T : Int) (k : Nat) : Int := dy (gwB W H Z T k).1 (gwB W H Z T k).2
theorem gw_nn (W H Z T : Int) (k : Nat) : 0 ≤ gX W H Z T k ∧ 0 ≤ gY W H Z T k := pow_nn (steps_bnd W H Z T k).2
theorem gw_at {a b N z T k : Nat} (ho : Ok (a : Int) (b : Int) N z) (hT : T < N) (hk : k < N) : stepsN a T k ≤ 12 ∧ gwB a b z T k = pw (stepsN a T k) := by
  obtain ⟨a', b', N', z', e1, e2, e3, ho', hN, ha, ha7, hb7⟩ := okAB ho.ok
  obtain rfl : a = a' := by omega
  obtain rfl : b = b' := by omega
  obtain rfl : N = N' := by rw [← hN, ← ho.nat.1]
  have h1 := stepsN_le ha ha7 hb7 (by rw [hN]; exact hT) (by rw [hN]; exact hk)
  refine ⟨h1, ?_⟩
  unfold gwB
  rw [steps_yes ho hT hk, powG_nat h1]
theorem gw_line {a b N z T f o t : Nat} (ho : Ok (a : Int) (b : Int) N z) (hT : T < N) (h : isLine a b z ((f : Int), (o : Int), (t : Int))) :
    0 ≤ gX a b z T f + gX a b z T o - gX a b z T t ∧ 0 ≤ gY a b z T f + gY a b z T o - gY a b z T t := by
  obtain ⟨hN, ha, -⟩ := ho.nat
  obtain ⟨f', o', t', L⟩ := h.at ha
  have e := L.eq
  simp only [Prod.mk.injEq] at e
  obtain ⟨e1, e2, e3⟩ := e
  obtain rfl : f = f' := by omega
  obtain rfl : o = o' := by omega
  obtain rfl : t = t' := by omega
  obtain ⟨bf, ef⟩ := gw_at ho hT (by rw [← hN]; exact L.fN)
  obtain ⟨bo, eo⟩ := gw_at ho hT (by rw [← hN]; exact L.oN)
  obtain ⟨bt, et⟩ := gw_at ho hT (by rw [← hN]; exact L.tN)
  unfold gX gY
  rw [ef, eo, et]
  rcases dist_line (T := T) ha h with ⟨d1, d2⟩ | ⟨d1, d2⟩ | ⟨d1, d2⟩
  · rw [d1, d2]; exact pw_up ⟨stepsN a T f, by omega⟩
  · rw [d1, d2]; exact pw_down ⟨stepsN a T t, by omega⟩
  · rw [d2]
    have h1 := pw_nn ⟨stepsN a T o, by omega⟩
    have h2 : ∀ x y : Int, 0 ≤ y → 0 ≤ x + y - x := fun x y h => by omega
    exact ⟨h2 _ _ h1.1, h2 _ _ h1.2⟩
theorem dx_list (f : Nat → Int × Int) (ks : List Nat) : dx (gsL f ks).1 (gsL f ks).2 = (ks.map fun k => dx (f k).1 (f k).2).sum ∧ dy (gsL f ks).1 (gsL f ks).2 = (ks.map fun k => dy (f k).1 (f k).2).sum := by
  induction ks with
  | nil => rw [gsL_nil]; simp [dx, dy]
  | cons k ks ih =>
    rw [gsL_cons]
    obtain ⟨e1, e2⟩ := dx_add (f k).1 (f k).2 (gsL f ks).1 (gsL f ks).2
    simp only [List.map_cons, List.sum_cons]
    rw [e1, e2, ih.1, ih.2]
    exact ⟨rfl, rfl⟩
theorem gsum_dx {W H Z T : Int} {p : Nat} (h1 : posB W H Z p = true) (h2 : holeB W H Z T = true) : dx (gsumB W H Z T p).1 (gsumB W H Z T p).2 = sumF (gX W H Z T) p 49 ∧ dy (gsumB W H Z T p).1 (gsumB W H Z T p).2 = sumF (gY W H Z T) p 49 := by
  rw [gsum_yes h1 h2, Int.toNat_natCast, (dx_list _ _).1, (dx_list _ _).2, ← sumF_bits, ← sumF_bits]
  exact ⟨rfl, rfl⟩
/-- Each line's golden loss is not below 0. -/
theorem gloss_nn {W H Z T : Int} {l : Ln} (hl : l ∈ lnsOf W H Z) (hT : holeB W H Z T = true) : 0 ≤ signG (glossB W H Z T l).1 (glossB W H Z T l).2 := by
  obtain ⟨a, b, N, z, k, rfl, rfl, rfl, rfl, ho, hk, hb⟩ := hole_all hT
  obtain ⟨hN, ha, -⟩ := ho.nat
  have hc := mem_contains hl
  rw [lnsOf_ok ho] at hl
  obtain ⟨f, o, t, L⟩ := mem_at hN ha hl
  have hi := (mem_lines hN).1 hl
  rw [L.eq] at hi
  obtain ⟨x, y⟩ := gw_line ho hk hi
  rw [gloss_yes hc hT, L.eq]
  have bf := gw_in a b z k f
  have bo := gw_in a b z k o
  have bt := gw_in a b z k t
  unfold gX at x
  unfold gY at y
  unfold Gin at bf bo bt
  generalize gwB (a : Int) (b : Int) (z : Int) (k : Int) (f : Int) = u at *
  generalize gwB (a : Int) (b : Int) (z : Int) (k : Int) (o : Int) = v at *
  generalize gwB (a : Int) (b : Int) (z : Int) (k : Int) (t : Int) = w at *
  rw [sign_ge (gold_of (by omega))]
  unfold geB
  rw [(dx_sub _ _ _ _).1, (dx_sub _ _ _ _).2, (dx_add _ _ _ _).1, (dx_add _ _ _ _).2]
  exact ⟨x, y⟩
/-- The golden sum never grows. -/
theorem Small5.gsum {W H Z P T : Int} {a b N z p : Nat} (S : Small5 W H Z P a b N z p) (hT : holeB W H Z T = true) {q : Nat} (h : q ∈ reachL false W H Z P) : cmpG (gsumB W H Z T q).1 (gsumB W H Z T q).2 (gsumB W H Z T P).1 (gsumB W H Z T P).2 ≤ 0 := by
  obtain ⟨a', b', N', z', k, w1, w2, w3, rfl, ho, hk, hb⟩ := hole_all hT
  rw [cmp_le (gsum_gold _ _ _ _ _) (gsum_gold _ _ _ _ _)]
  have hq := (S.at h).pos
  have hp := S.pos
  rw [S.eP] at hp ⊢
  unfold geB
  rw [(dx_sub _ _ _ _).1, (dx_sub _ _ _ _).2, (gsum_dx hp hT).1, (gsum_dx hp hT).2, (gsum_dx hq hT).1, (gsum_dx hq hT).2]
  have v1 := S.eW
  have v2 := S.eH
  obtain rfl : a = a' := by omega
  obtain rfl : b = b' := by omega
  have hkN : k < N := by rw [← S.ok.nat.1, ho.nat.1]; exact hk
  have g1 := S.falls (g := gX a b z k) (fun f o t hi => (gw_line S.ok hkN hi).1) h
  have g2 := S.falls (g := gY a b z k) (fun f o t hi => (gw_line S.ok hkN hi).2) h
  rw [S.eW, S.eH, S.eZ]
  omega
theorem steps_self {W H Z T : Int} (hT : holeB W H Z T = true) : stepsB W H Z T T = 0 := by
  obtain ⟨a, b, N, z, k, rfl, rfl, rfl, rfl, ho, hk, hb⟩ := hole_all hT
  rw [steps_yes ho hk hk]
  simp [stepsN, absD]
theorem steps_comm (W H Z J K : Int) : stepsB W H Z J K = stepsB W H Z K J := by
  unfold stepsB
  rw [show stepsN W.toNat J.toNat K.toNat = stepsN W.toNat K.toNat J.toNat by unfold stepsN; rw [absD_comm, absD_comm (J.toNat / _)]]
  rw [Bool.and_assoc, Bool.and_comm (idxB W H J), ← Bool.and_assoc]
theorem gw_self {W H Z T : Int} (hT : holeB W H Z T = true) : gwB W H Z T T = (1, 0) := by
  unfold gwB
  rw [steps_self hT]
  decide
/-- A peg at the target: the sum is 1 or more. -/
theorem Small5.hope {W H Z P : Int} {a b N z p : Nat} (S : Small5 W H Z P a b N z p) {k : Nat} (hT : holeB W H Z k = true) {q : Nat} (h : q ∈ reachL false W H Z P) (hb : bit q k = true) : hopeB W H Z P k = true := by
  have h1 := S.gsum hT h
  rw [cmp_le (gsum_gold _ _ _ _ _) (gsum_gold _ _ _ _ _)] at h1
  unfold geB at h1
  rw [(dx_sub _ _ _ _).1, (dx_sub _ _ _ _).2] at h1
  have hq := (S.at h).pos
  have hk49 : k < 49 := by
    obtain ⟨a', b', N', z', k', w1, w2, w3, w4, ho, hk, -⟩ := hole_all hT
    have := ho.n49
    omega
  have x := sumF_ge (g := gX W H Z k) (fun j => (gw_nn W H Z k j).1) hb 49 hk49
  have y := sumF_ge (g := gY W H Z k) (fun j => (gw_nn W H Z k j).2) hb 49 hk49
  rw [← (gsum_dx hq hT).1] at x
  rw [← (gsum_dx hq hT).2] at y
  unfold gX at x
  unfold gY at y
  rw [gw_self hT] at x y
  rw [hope_cmp, decide_eq_true_eq, cmp_ge (gsum_gold _ _ _ _ _) (by decide)]
  unfold geB
  rw [(dx_sub _ _ _ _).1, (dx_sub _ _ _ _).2]
  simp only at x y
  generalize dx (gsumB W H Z k q).1 (gsumB W H Z k q).2 = A at *
  generalize dy (gsumB W H Z k q).1 (gsumB W H Z k q).2 = B at *
  generalize dx (gsumB W H Z k P).1 (gsumB W H Z k P).2 = C at *
  generalize dy (gsumB W H Z k P).1 (gsumB W H Z k P).2 = D at *
  generalize dx 1 0 = E at *
  generalize dy 1 0 = F at *
  omega
/-- A peg by itself. -/
theorem gsum_one {W H Z : Int} {k : Nat} (hT : holeB W H Z k = true) : gsumB W H Z k ((2 ^ k : Nat) : Int) = (1, 0) := by
  have hg := gw_self hT
  obtain ⟨a, b, N, z, k', rfl, rfl, rfl, e, ho, hk, hb⟩ := hole_all hT
  obtain rfl : k = k' := by omega
  have hp : posB a b z ((2 ^ k : Nat) : Int) = true := pos_of ho (part_of fun j hj => by
    rw [bit_pow, decide_eq_true_eq] at hj
    rw [← hj]; exact hb)
  have hk49 : k < 49 := by have := ho.n49; omega
  rw [gsum_yes hp hT, Int.toNat_natCast, bits_pow hk49, gsL_cons, gsL_nil, hg]
  simp
end Go.Proofs.YtllfgdcplbfdhaaGreat
