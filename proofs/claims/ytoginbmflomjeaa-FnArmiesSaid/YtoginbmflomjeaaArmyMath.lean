/- Armies as mathematics: sums over soldiers by coordinates, what few soldiers can reach, that no army reaches the fifth row; of no program. -/
import Derived.Test.YtoginbmflomjeaaGoldOrder
import Derived.Test.YtoginbmflomjeaaBoards
namespace Go.Proofs.Ytoginbmflomjeaa
open Go.RowKit
set_option linter.unusedVariables false
abbrev Sd := Int × Int
def soldB (s : Sd) : Bool := inB s.1 (-8) 8 && inB s.2 0 8
def wtB (s : Sd) (L : Int) : Int × Int := if (soldB s && inB L 1 5) = true then powG ((s.1.natAbs : Int) + s.2 + L) else (0, 0)
def armyB (l : List Sd) : Bool := l.all soldB && decide l.Nodup && decide (l.length ≤ 60)
def wsum (l : List Sd) (L : Int) : Int × Int := ((l.map fun s => (wtB s L).1).sum, (l.map fun s => (wtB s L).2).sum)
def asumB (l : List Sd) (L : Int) : Int × Int := if (armyB l && inB L 1 5) = true then wsum l L else (0, 0)
def mayB (l : List Sd) (L : Int) : Bool := armyB l && inB L 1 5 && decide (0 ≤ cmpG (asumB l L).1 (asumB l L).2 1 0)
def leastB (L : Int) : Int := if L = 1 then 2 else if L = 2 then 4 else if L = 3 then 8 else if L = 4 then 19 else -1
theorem army_yes {l : List Sd} (h : armyB l = true) : (∀ s ∈ l, soldB s = true) ∧ l.Nodup ∧ l.length ≤ 60 := by
  simp only [armyB, Bool.and_eq_true, List.all_eq_true, decide_eq_true_eq] at h
  exact ⟨h.1.1, h.1.2, h.2⟩
theorem sold_yes {s : Sd} (h : soldB s = true) : (-8 ≤ s.1 ∧ s.1 ≤ 8) ∧ 0 ≤ s.2 ∧ s.2 ≤ 8 := by
  simp only [soldB, inB, Bool.and_eq_true, decide_eq_true_eq] at h
  exact h
def dxw (g : Int × Int) : Int := dx g.1 g.2
def dyw (g : Int × Int) : Int := dy g.1 g.2
theorem pw_nn : ∀ k : Fin 21, 0 ≤ dxw (pw k.val) ∧ 0 ≤ dyw (pw k.val) := by decide +kernel
theorem pw_down : ∀ k : Fin 20, dxw (pw (k.val + 1)) ≤ dxw (pw k.val) ∧ dyw (pw (k.val + 1)) ≤ dyw (pw k.val) := by decide +kernel
theorem pw_in : ∀ k : Fin 21, (-6765 ≤ (pw k.val).1 ∧ (pw k.val).1 ≤ 6765) ∧ -6765 ≤ (pw k.val).2 ∧ (pw k.val).2 ≤ 6765 := by decide +kernel
theorem powG_nn (n : Int) : 0 ≤ dxw (powG n) ∧ 0 ≤ dyw (powG n) := by
  unfold powG
  split
  · next h =>
    obtain ⟨m, rfl⟩ := Int.eq_ofNat_of_zero_le h.1
    exact pw_nn ⟨m, by omega⟩
  · exact ⟨by decide, by decide⟩
theorem powG_in (n : Int) : (-6765 ≤ (powG n).1 ∧ (powG n).1 ≤ 6765) ∧ -6765 ≤ (powG n).2 ∧ (powG n).2 ≤ 6765 := by
  unfold powG
  split
  · next h =>
    obtain ⟨m, rfl⟩ := Int.eq_ofNat_of_zero_le h.1
    exact pw_in ⟨m, by omega⟩
  · exact ⟨⟨by decide, by decide⟩, by decide, by decide⟩
theorem powG_down (n : Int) (h0 : 1 ≤ n) : dxw (powG n) ≤ dxw (powG (n - 1)) ∧ dyw (powG n) ≤ dyw (powG (n - 1)) := by
  by_cases h : n ≤ 20
  · obtain ⟨m, rfl⟩ : ∃ m : Nat, n = ((m + 1 : Nat) : Int) := ⟨(n - 1).toNat, by omega⟩
    have e1 : powG ((m + 1 : Nat) : Int) = pw (m + 1) := by rw [powG, if_pos (by omega)]; rfl
    have e2 : powG (((m + 1 : Nat) : Int) - 1) = pw m := by rw [show ((m + 1 : Nat) : Int) - 1 = (m : Int) by omega, powG, if_pos (by omega)]; rfl
    rw [e1, e2]
    exact pw_down ⟨m, by omega⟩
  · have e1 : powG n = (0, 0) := by rw [powG, if_neg (by omega)]
    rw [e1]
    exact powG_nn (n - 1)
theorem wt_nn (s : Sd) (L : Int) : 0 ≤ dxw (wtB s L) ∧ 0 ≤ dyw (wtB s L) := by
  unfold wtB
  split
  · exact powG_nn _
  · exact ⟨by decide, by decide⟩
theorem wt_in (s : Sd) (L : Int) : (-6765 ≤ (wtB s L).1 ∧ (wtB s L).1 ≤ 6765) ∧ -6765 ≤ (wtB s L).2 ∧ (wtB s L).2 ≤ 6765 := by
  unfold wtB
  split
  · exact powG_in _
  · exact ⟨⟨by decide, by decide⟩, by decide, by decide⟩
theorem wt_down (s : Sd) (L : Int) (h2 : 2 ≤ L) (h5 : L ≤ 5) : dxw (wtB s L) ≤ dxw (wtB s (L - 1)) ∧ dyw (wtB s L) ≤ dyw (wtB s (L - 1)) := by
  have e1 : inB L 1 5 = true := by simp only [inB, Bool.and_eq_true, decide_eq_true_eq]; omega
  have e2 : inB (L - 1) 1 5 = true := by simp only [inB, Bool.and_eq_true, decide_eq_true_eq]; omega
  unfold wtB
  rw [e1, e2]
  cases hs : soldB s
  · exact ⟨Int.le_refl _, Int.le_refl _⟩
  · have h := sold_yes hs
    have := powG_down ((s.1.natAbs : Int) + s.2 + L) (by omega)
    rw [show (s.1.natAbs : Int) + s.2 + L - 1 = (s.1.natAbs : Int) + s.2 + (L - 1) by omega] at this
    exact this
theorem dxw_add (a b c d : Int) : dxw (a + c, b + d) = dxw (a, b) + dxw (c, d) ∧ dyw (a + c, b + d) = dyw (a, b) + dyw (c, d) := dx_add a b c d
/-- The coordinates of a sum. -/
theorem wsum_xy (L : Int) : ∀ l : List Sd, dxw (wsum l L) = (l.map fun s => dxw (wtB s L)).sum ∧ dyw (wsum l L) = (l.map fun s => dyw (wtB s L)).sum
  | [] => ⟨rfl, rfl⟩
  | s :: l => by
    have h := wsum_xy L l
    have e : wsum (s :: l) L = ((wtB s L).1 + (wsum l L).1, (wtB s L).2 + (wsum l L).2) := by simp [wsum]
    obtain ⟨a1, a2⟩ := dxw_add (wtB s L).1 (wtB s L).2 (wsum l L).1 (wsum l L).2
    rw [e, a1, a2]
    simp only [List.map_cons, List.sum_cons]
    exact ⟨by rw [← h.1], by rw [← h.2]⟩
theorem wsum_in (L : Int) : ∀ l : List Sd, (-6765 * (l.length : Int) ≤ (wsum l L).1 ∧ (wsum l L).1 ≤ 6765 * (l.length : Int)) ∧ -6765 * (l.length : Int) ≤ (wsum l L).2 ∧ (wsum l L).2 ≤ 6765 * (l.length : Int)
  | [] => by simp [wsum]
  | s :: l => by
    have h := wsum_in L l
    have k := wt_in s L
    have e : wsum (s :: l) L = ((wtB s L).1 + (wsum l L).1, (wtB s L).2 + (wsum l L).2) := by simp [wsum]
    rw [e, List.length_cons]
    simp only
    omega
theorem wsum_gold {l : List Sd} (h : l.length ≤ 60) (L : Int) : goldB (wsum l L).1 (wsum l L).2 = true := by
  have := wsum_in L l
  exact gold_of (by omega)
theorem wsum_snoc (l : List Sd) (s : Sd) (L : Int) : wsum (l ++ [s]) L = ((wsum l L).1 + (wtB s L).1, (wsum l L).2 + (wtB s L).2) := by simp [wsum]
theorem perm_sum {l m : List Int} (h : l.Perm m) : l.sum = m.sum := by
  induction h with
  | nil => rfl
  | cons x _ ih => simp [ih]
  | swap x y l => simp only [List.sum_cons]; omega
  | trans _ _ a b => exact a.trans b
/-- A sum over some of a list. -/
theorem sum_sub {α : Type} [DecidableEq α] (f : α → Int) (hf : ∀ s, 0 ≤ f s) : ∀ (l g : List α), l.Nodup → (∀ s ∈ l, s ∈ g) → (l.map f).sum ≤ (g.map f).sum
  | [], g, _, _ => by
    induction g with
    | nil => exact Int.le_refl _
    | cons s g ih => have := ih (fun s hs => absurd hs (by simp)); have := hf s; simp only [List.map_cons, List.sum_cons, List.map_nil, List.sum_nil] at *; omega
  | s :: l, g, hn, hs => by
    have hsg := hs s (List.mem_cons_self ..)
    rw [List.nodup_cons] at hn
    have h1 := sum_sub f hf l (g.erase s) hn.2 (fun t ht => by
      refine (List.mem_erase_of_ne ?_).2 (hs t (List.mem_cons_of_mem _ ht))
      rintro rfl
      exact hn.1 ht)
    have h2 : (g.map f).sum = f s + ((g.erase s).map f).sum := by
      rw [perm_sum ((List.perm_cons_erase hsg).map f)]; simp
    simp only [List.map_cons, List.sum_cons]
    omega
/-- What k of them can sum up to: k times a threshold, and what all of a list have above it. -/
theorem sum_few {α : Type} [DecidableEq α] (f : α → Int) (t : Int) (ht : 0 ≤ t) (l g : List α) (hn : l.Nodup) (hs : ∀ s ∈ l, s ∈ g) {k : Nat} (hk : l.length ≤ k) :
    (l.map f).sum ≤ (k : Int) * t + (g.map fun s => max 0 (f s - t)).sum := by
  have h1 := sum_sub (fun s => max 0 (f s - t)) (fun s => by omega) l g hn hs
  have h2 : ∀ l : List α, (l.map f).sum ≤ (l.length : Int) * t + (l.map fun s => max 0 (f s - t)).sum := fun l => by
    induction l with
    | nil => simp
    | cons s l ih =>
      simp only [List.map_cons, List.sum_cons, List.length_cons]
      have e : ((l.length + 1 : Nat) : Int) * t = (l.length : Int) * t + t := by rw [Int.natCast_add, Int.add_mul]; simp
      rw [e]
      omega
  have h3 := h2 l
  have h4 : (l.length : Int) * t ≤ (k : Int) * t := Int.mul_le_mul_of_nonneg_right (by omega) ht
  omega
theorem sum_le {α : Type} {f g : α → Int} (h : ∀ s, f s ≤ g s) : ∀ l : List α, (l.map f).sum ≤ (l.map g).sum
  | [] => Int.le_refl _
  | s :: l => by have := sum_le h l; have := h s; simp only [List.map_cons, List.sum_cons]; omega
def grid : List Sd := (List.range 17).flatMap fun (i : Nat) => (List.range 9).map fun (j : Nat) => ((i : Int) - 8, (j : Int))
theorem mem_grid {s : Sd} (h : soldB s = true) : s ∈ grid := by
  obtain ⟨⟨h1, h2⟩, h3, h4⟩ := sold_yes h
  unfold grid
  rw [List.mem_flatMap]
  refine ⟨(s.1 + 8).toNat, List.mem_range.2 (by omega), ?_⟩
  rw [List.mem_map]
  refine ⟨s.2.toNat, List.mem_range.2 (by omega), ?_⟩
  apply Prod.ext <;> simp only <;> omega
theorem total5 : (grid.map fun s => dxw (wtB s 5)).sum < 102334155 := by decide +kernel
theorem few1 : (1 : Int) * 39088169 + (grid.map fun s => max 0 (dxw (wtB s 1) - 39088169)).sum < 102334155 := by decide +kernel
theorem few2 : (3 : Int) * 24157817 + (grid.map fun s => max 0 (dxw (wtB s 2) - 24157817)).sum < 102334155 := by decide +kernel
theorem few3 : (7 : Int) * 9227465 + (grid.map fun s => max 0 (dxw (wtB s 3) - 9227465)).sum < 102334155 := by decide +kernel
theorem few4 : (18 : Int) * 2178309 + (grid.map fun s => max 0 (dxw (wtB s 4) - 2178309)).sum < 102334155 := by decide +kernel
/-- A sum that is at least 1, in coordinates. -/
theorem one_xy {l : List Sd} {L : Int} (h : l.length ≤ 60) : 0 ≤ cmpG (wsum l L).1 (wsum l L).2 1 0 ↔ 102334155 ≤ dxw (wsum l L) ∧ 63245986 ≤ dyw (wsum l L) := by
  rw [cmp_ge (wsum_gold h L) (by decide)]
  unfold geB dxw dyw dx dy
  generalize (wsum l L).1 = a
  generalize (wsum l L).2 = b
  rw [Int.mul_sub, Int.mul_sub, Int.sub_zero]
  omega
theorem may_no {l : List Sd} {L : Int} (h : (armyB l && inB L 1 5) = false) : mayB l L = false := by unfold mayB; rw [h]; rfl
theorem asum_yes {l : List Sd} {L : Int} (h1 : armyB l = true) (h2 : inB L 1 5 = true) : asumB l L = wsum l L := by unfold asumB; rw [h1, h2]; rfl
theorem may_xy {l : List Sd} {L : Int} : mayB l L = true ↔ armyB l = true ∧ inB L 1 5 = true ∧ 102334155 ≤ dxw (wsum l L) ∧ 63245986 ≤ dyw (wsum l L) := by
  cases h1 : armyB l
  · rw [may_no (by rw [h1]; rfl)]; simp
  · cases h2 : inB L 1 5
    · rw [may_no (by rw [h1, h2]; rfl)]; simp
    · unfold mayB
      rw [h1, h2, asum_yes h1 h2]
      simp only [Bool.true_and, decide_eq_true_eq, true_and]
      exact one_xy (army_yes h1).2.2
/-- No army reaches the fifth row. -/
theorem no_five (l : List Sd) : mayB l 5 = false := by
  rw [← Bool.not_eq_true, may_xy]
  rintro ⟨h1, -, h3, -⟩
  obtain ⟨a1, a2, -⟩ := army_yes h1
  have := sum_sub (fun s => dxw (wtB s 5)) (fun s => (wt_nn s 5).1) l grid a2 (fun s hs => mem_grid (a1 s hs))
  rw [(wsum_xy 5 l).1] at h3
  have := total5
  omega
/-- Fewer soldiers than the least number do not reach. -/
theorem few_not {l : List Sd} {L t : Int} {k : Nat} (ht : 0 ≤ t) (hb : (k : Int) * t + (grid.map fun s => max 0 (dxw (wtB s L) - t)).sum < 102334155) (h : mayB l L = true) : k < l.length := by
  obtain ⟨h1, -, h3, -⟩ := may_xy.1 h
  obtain ⟨a1, a2, -⟩ := army_yes h1
  rw [(wsum_xy L l).1] at h3
  rcases Nat.lt_or_ge k l.length with hk | hk
  · exact hk
  · have := sum_few (fun s => dxw (wtB s L)) t ht l grid a2 (fun s hs => mem_grid (a1 s hs)) hk
    omega
theorem may_least {l : List Sd} {L : Int} (h1 : 1 ≤ L) (h4 : L ≤ 4) (h : mayB l L = true) : leastB L ≤ (l.length : Int) := by
  have hL : L = 1 ∨ L = 2 ∨ L = 3 ∨ L = 4 := by omega
  rcases hL with rfl | rfl | rfl | rfl
  · have := few_not (k := 1) (by decide) few1 h; unfold leastB; simp; omega
  · have := few_not (k := 3) (by decide) few2 h; unfold leastB; simp; omega
  · have := few_not (k := 7) (by decide) few3 h; unfold leastB; simp; omega
  · have := few_not (k := 18) (by decide) few4 h; unfold leastB; simp; omega
theorem may_down {l : List Sd} {L : Int} (h2 : 2 ≤ L) (h5 : L ≤ 5) (h : mayB l L = true) : mayB l (L - 1) = true := by
  obtain ⟨h1, -, h3, h4⟩ := may_xy.1 h
  rw [may_xy]
  refine ⟨h1, by simp only [inB, Bool.and_eq_true, decide_eq_true_eq]; omega, ?_, ?_⟩
  · rw [(wsum_xy _ l).1] at h3 ⊢
    have := sum_le (fun s => (wt_down s L h2 h5).1) l
    omega
  · rw [(wsum_xy _ l).2] at h4 ⊢
    have := sum_le (fun s => (wt_down s L h2 h5).2) l
    omega
/-- What a search over the list finds. -/
theorem army_bad {xs : List Sd} {k : Nat} {s : Sd} (hk : xs[k]? = some s) (h : soldB s = false) : armyB xs = false := by
  have : xs.all soldB = false := by
    rw [← Bool.not_eq_true, List.all_eq_true]
    intro ha
    have := ha s (List.mem_of_getElem? hk)
    rw [h] at this; cases this
  simp [armyB, this]
theorem army_dup {xs : List Sd} {i k : Nat} {s : Sd} (hi : xs[i]? = some s) (hk : xs[k]? = some s) (hik : i < k) : armyB xs = false := by
  have : ¬ xs.Nodup := by
    intro hn
    obtain ⟨h1, e1⟩ := List.getElem?_eq_some_iff.1 hi
    obtain ⟨h2, e2⟩ := List.getElem?_eq_some_iff.1 hk
    have := (List.pairwise_iff_getElem.1 hn) i k h1 h2 hik
    exact this (e1.trans e2.symm)
  simp [armyB, this]
/-- All of them in their range, no two alike. -/
def goodL (l : List Sd) : Prop := (∀ s ∈ l, soldB s = true) ∧ l.Nodup
theorem good_nil : goodL [] := ⟨fun s h => absurd h (List.not_mem_nil), List.Pairwise.nil⟩
theorem good_snoc {xs : List Sd} {k : Nat} {s : Sd} (h : goodL (xs.take k)) (hk : xs[k]? = some s) (hs : soldB s = true) (hn : ∀ (i : Nat) (t : Sd), i < k → xs[i]? = some t → t ≠ s) : goodL (xs.take (k + 1)) := by
  have hkl := (List.getElem?_eq_some_iff.1 hk).1
  have e : xs.take (k + 1) = xs.take k ++ [s] := by rw [List.take_add_one, hk]; rfl
  rw [e]
  refine ⟨fun t ht => ?_, ?_⟩
  · rcases List.mem_append.1 ht with ht | ht
    · exact h.1 t ht
    · rw [List.mem_singleton.1 ht]; exact hs
  · refine List.pairwise_append.2 ⟨h.2, by simp, fun t ht u hu => ?_⟩
    rw [List.mem_singleton.1 hu]
    obtain ⟨i, hi⟩ := List.mem_iff_getElem?.1 ht
    have hik : i < k := by
      have := (List.getElem?_eq_some_iff.1 hi).1
      rw [List.length_take] at this; omega
    refine hn i t hik ?_
    rw [List.getElem?_take, if_pos hik] at hi
    exact hi
theorem good_army {xs : List Sd} (h : goodL xs) : armyB xs = decide (xs.length ≤ 60) := by
  unfold armyB
  rw [List.all_eq_true.2 h.1, decide_eq_true h.2]
  rfl
theorem asum_no {l : List Sd} {L : Int} (h : (armyB l && inB L 1 5) = false) : asumB l L = (0, 0) := by unfold asumB; rw [h]; rfl
theorem wt_no {s : Sd} {L : Int} (h : (soldB s && inB L 1 5) = false) : wtB s L = (0, 0) := by unfold wtB; rw [h]; rfl
theorem wsum_zero {L : Int} (h : inB L 1 5 = false) : ∀ l : List Sd, wsum l L = (0, 0)
  | [] => rfl
  | s :: l => by
    have e : wsum (s :: l) L = ((wtB s L).1 + (wsum l L).1, (wtB s L).2 + (wsum l L).2) := by simp [wsum]
    rw [e, wsum_zero h l, wt_no (by rw [h, Bool.and_false])]
    rfl
/-- The model sums up whatever level it is given. -/
theorem asum_sum {l : List Sd} {L : Int} (h : armyB l = true) : asumB l L = wsum l L := by
  cases h2 : inB L 1 5
  · rw [asum_no (by rw [h, h2]; rfl), wsum_zero h2]
  · exact asum_yes h h2
end Go.Proofs.Ytoginbmflomjeaa
