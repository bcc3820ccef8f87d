/- What the law FnProofs asks of weights: a proof by weights shows that the goal is not reached; what is found is a proof; the weights by classes, columns and rows are falling. Of no program. -/
import Derived.Test.YtllfgdcplbfdhaaGreatSumAlong
import Derived.Test.YtllfgdcplbfdhaaGreatWeightFacts
import Derived.Test.YtllfgdcplbfdhaaGreatProofs
namespace Go.Proofs.YtllfgdcplbfdhaaGreat
set_option linter.unusedVariables false
theorem sumF_to (xs : List Int) (p : Nat) : ∀ n, sumTo xs p n = sumF (wAt xs) p n
  | 0 => rfl
  | n + 1 => by rw [sumTo_next, sumF_next, sumF_to xs p n]
theorem wAt_far {xs : List Int} {k : Nat} (h : xs.length ≤ k) : wAt xs k = 0 := by simp [wAt, List.getD, List.getElem?_eq_none h]
theorem sumF_far (xs : List Int) (p : Nat) : ∀ n, xs.length ≤ n → sumF (wAt xs) p n = sumF (wAt xs) p xs.length
  | 0, h => by rw [show xs.length = 0 by omega]
  | n + 1, h => by
    by_cases e : xs.length = n + 1
    · rw [e]
    · rw [sumF_next, sumF_far xs p n (by omega), wAt_far (by omega)]
      simp
/-- A proof by weights: the goal is not reached. -/
theorem Small5.proof {W H Z P : Int} {a b N z p : Nat} (S : Small5 W H Z P a b N z p) {xs : List Int} {q : Nat} (hq : q ∈ reachL false W H Z P) : proofB W H Z xs P q = false := by
  cases h : proofB W H Z xs P q
  · rfl
  · exfalso
    unfold proofB at h
    simp only [Bool.and_eq_true, decide_eq_true_eq] at h
    obtain ⟨⟨⟨hf, hp⟩, hg⟩, hlt⟩ := h
    have hw : wOkB W H Z xs = true := by
      have := hf
      unfold fallB at this
      rw [Bool.and_eq_true] at this
      exact this.1
    obtain ⟨-, hlen, -⟩ := wOk_yes hw
    have hwh := S.ok.wh
    rw [S.eW, S.eH, hwh] at hlen
    have hn49 := S.ok.n49
    have h1 := S.falls (g := wAt xs) (fun f o t hi => by
      have hm : ((f : Int), (o : Int), (t : Int)) ∈ lnsOf W H Z := by
        rw [S.eW, S.eH, S.eZ, lnsOf_ok S.ok]
        exact (mem_lines S.ok.nat.1).2 hi
      have := fall_loss hf hm
      simpa [lossL] using this) hq
    unfold sumB at hlt
    rw [hw, hp, hg, S.eP] at hlt
    simp only [Bool.true_and, if_true, Int.toNat_natCast] at hlt
    rw [sumF_to, sumF_to, ← sumF_far xs p 49 (by omega), ← sumF_far xs q 49 (by omega)] at hlt
    omega
/-- What is found is a proof. -/
theorem find_proof {W H Z P G : Int} (h : (findB W H Z P G).2 = true) : proofB W H Z (findB W H Z P G).1 P G = true := by
  unfold findB at *
  cases hj : (List.range 17).find? (fun j => proofB W H Z (tryL W H Z j) P G) with
  | none => rw [hj] at h; cases h
  | some j => simpa using List.find?_some hj
theorem find_none {W H Z P G : Int} (h : posB W H Z G = false) : findB W H Z P G = ([], false) := first_no fun i _ => by simp [proofB, h]
/-- Three places in a row, in columns and rows. -/
def RowXY (x y x1 y1 x2 y2 : Nat) : Prop := (x1 = x + 1 ∧ x2 = x + 2 ∧ y1 = y ∧ y2 = y) ∨ (y1 = y + 1 ∧ y2 = y + 2 ∧ x1 = x ∧ x2 = x) ∨ (x1 = x2 + 1 ∧ x = x2 + 2 ∧ y1 = y ∧ y2 = y) ∨ (y1 = y2 + 1 ∧ y = y2 + 2 ∧ x1 = x ∧ x2 = x)
theorem line_row {a b z f o t : Nat} (ha : 0 < a) (h : isLine a b z ((f : Int), (o : Int), (t : Int))) : RowXY (f % a) (f / a) (o % a) (o / a) (t % a) (t / a) := by
  obtain ⟨k, o', t', d, hd, -, -, h1, h2, e⟩ := h
  simp only [Prod.mk.injEq] at e
  obtain ⟨e1, e2, e3⟩ := e
  obtain rfl : f = k := by omega
  obtain rfl : o = o' := by omega
  obtain rfl : t = t' := by omega
  have s1 := nbr_xy ha hd (stepN_some h1).1
  have s2 := nbr_xy ha hd (stepN_some h2).1
  unfold StepXY at s1 s2
  unfold RowXY
  generalize f % a = fx at *
  generalize f / a = fy at *
  generalize o % a = ox at *
  generalize o / a = oy at *
  generalize t % a = ux at *
  generalize t / a = uy at *
  clear h1 h2 e1 e2 e3 ha
  rcases s1 with ⟨c1, p1, q1⟩ | ⟨c1, p1, q1⟩ | ⟨c1, p1, q1⟩ | ⟨c1, p1, q1⟩ <;> rcases s2 with ⟨c2, p2, q2⟩ | ⟨c2, p2, q2⟩ | ⟨c2, p2, q2⟩ | ⟨c2, p2, q2⟩ <;> omega
/-- A list over the grid that falls along each row of three. -/
theorem grid_falls {a b N z : Nat} {f : Nat → Nat → Int} (ho : Ok (a : Int) (b : Int) N z) (hin : ∀ x y, x < 7 → y < 7 → inW (f x y) = true)
    (hl : ∀ x y x1 y1 x2 y2, x < 7 → y < 7 → x2 < 7 → y2 < 7 → RowXY x y x1 y1 x2 y2 → 0 ≤ f x y + f x1 y1 - f x2 y2) : fallB a b z (gridL a N f) = true := by
  obtain ⟨a', b', N', z', e1, e2, e3, ho', hN, ha, ha7, hb7⟩ := okAB ho.ok
  obtain rfl : a = a' := by omega
  obtain rfl : b = b' := by omega
  have hNN : a * b = N := ho.nat.1
  have hx : ∀ k, k < N → k % a < 7 ∧ k / a < 7 := fun k hk => by
    have h1 := Nat.mod_lt k ha
    have h2 := div_at (b := b) ha (by rw [hNN]; exact hk)
    omega
  have hw : wOkB a b z (gridL a N f) = true := by
    unfold wOkB wtsB
    rw [ho.ok, gridL_len, ho.wh]
    simp only [Bool.true_and, decide_true]
    refine all_of fun k x hk => ?_
    have hkl : k < N := by
      obtain ⟨h, -⟩ := List.getElem?_eq_some_iff.1 hk
      rwa [gridL_len] at h
    rw [gridL_get f hkl] at hk
    obtain rfl := Option.some.inj hk
    exact hin _ _ (hx k hkl).1 (hx k hkl).2
  rw [fall_brk hw, Option.isNone_iff_eq_none]
  unfold brkL
  rw [if_pos hw, List.find?_eq_none]
  intro l hlm
  rw [lnsOf_ok ho] at hlm
  obtain ⟨u, o, t, L⟩ := mem_at hNN ha hlm
  have hi := (mem_lines hNN).1 hlm
  rw [L.eq] at hi
  have hr := line_row ha hi
  have k1 := L.fN; have k2 := L.oN; have k3 := L.tN
  rw [hNN] at k1 k2 k3
  have g := hl _ _ _ _ _ _ (hx u k1).1 (hx u k1).2 (hx t k3).1 (hx t k3).2 hr
  unfold badL lossL
  rw [L.eq]
  simp only [Int.toNat_natCast, wAt_get (gridL_get f k1), wAt_get (gridL_get f k2), wAt_get (gridL_get f k3)]
  simpa using g
theorem near_in : ∀ p x : Fin 7, inW (nearW x.val p.val) = true ∧ 0 ≤ nearW x.val p.val := by decide +kernel
theorem near_row : ∀ (p : Fin 7) (x : Fin 5), 0 ≤ nearW x.val p.val + nearW (x.val + 1) p.val - nearW (x.val + 2) p.val ∧ 0 ≤ nearW (x.val + 2) p.val + nearW (x.val + 1) p.val - nearW x.val p.val := by decide +kernel
theorem cls_falls {a b N z r : Nat} (ho : Ok (a : Int) (b : Int) N z) (hr : r ≤ 2) : fallB a b z (overL a b z r 2 clsW) = true := by
  rw [overL_yes ho hr]
  refine grid_falls ho (fun x y _ _ => ?_) (fun x y x1 y1 x2 y2 _ _ _ _ h => ?_)
  · unfold clsW; split <;> decide
  · unfold clsW RowXY at *
    split <;> split <;> split <;> omega
theorem col_falls {a b N z k : Nat} (ho : Ok (a : Int) (b : Int) N z) (hk : k ≤ 6) : fallB a b z (overL a b z k 6 colW) = true := by
  rw [overL_yes ho hk]
  refine grid_falls ho (fun x y hx hy => (near_in ⟨k, by omega⟩ ⟨x, hx⟩).1) (fun x y x1 y1 x2 y2 hx hy hx2 hy2 h => ?_)
  unfold colW
  rcases h with ⟨p1, p2, p3, p4⟩ | ⟨p1, p2, p3, p4⟩ | ⟨p1, p2, p3, p4⟩ | ⟨p1, p2, p3, p4⟩
  · rw [p1, p2]; exact (near_row ⟨k, by omega⟩ ⟨x, by omega⟩).1
  · have := (near_in ⟨k, by omega⟩ ⟨x, hx⟩).2
    simp only at this
    rw [p3, p4]
    omega
  · rw [p1, p2]; exact (near_row ⟨k, by omega⟩ ⟨x2, by omega⟩).2
  · have := (near_in ⟨k, by omega⟩ ⟨x, hx⟩).2
    simp only at this
    rw [p3, p4]
    omega
theorem row_falls {a b N z k : Nat} (ho : Ok (a : Int) (b : Int) N z) (hk : k ≤ 6) : fallB a b z (overL a b z k 6 rowW) = true := by
  rw [overL_yes ho hk]
  refine grid_falls ho (fun x y hx hy => (near_in ⟨k, by omega⟩ ⟨y, hy⟩).1) (fun x y x1 y1 x2 y2 hx hy hx2 hy2 h => ?_)
  unfold rowW
  rcases h with ⟨p1, p2, p3, p4⟩ | ⟨p1, p2, p3, p4⟩ | ⟨p1, p2, p3, p4⟩ | ⟨p1, p2, p3, p4⟩
  · have := (near_in ⟨k, by omega⟩ ⟨y, hy⟩).2
    simp only at this
    rw [p3, p4]
    omega
  · rw [p1, p2]; exact (near_row ⟨k, by omega⟩ ⟨y, by omega⟩).1
  · have := (near_in ⟨k, by omega⟩ ⟨y, hy⟩).2
    simp only at this
    rw [p3, p4]
    omega
  · rw [p1, p2]; exact (near_row ⟨k, by omega⟩ ⟨y2, by omega⟩).2
end Go.Proofs.YtllfgdcplbfdhaaGreat
