/- What the stable sort makes of all soldiers, for whatever level; how many of them are enough; of no program. -/
import Derived.Test.YtoginbmflomjeaaSortMath
import Derived.KernelRfl
namespace Go.Proofs.Ytoginbmflomjeaa
set_option linter.unusedVariables false
/-- What the comparison of two soldiers gives. -/
def cmpS (L : Int) (s t : Sd) : Int := cmpG (wtB t L).1 (wtB t L).2 (wtB s L).1 (wtB s L).2
def ltS (L : Int) (s t : Sd) : Bool := decide (cmpS L s t < 0)
def rkO (off : Nat) (s : Sd) : Nat := if soldB s = true then dS s else off
def ltO (off : Nat) (s t : Sd) : Bool := Nat.blt (rkO off s) (rkO off t)
theorem stab_O (off : Nat) : stabL (ltO off) 153 evS = srtS := by
  have h : decide (stabL (ltO off) 153 evS = srtS) = true := by kernel_rfl
  exact of_decide_eq_true h
def pwz (k : Nat) : Int × Int := if k ≤ 20 then pw k else (0, 0)
theorem pwz_lt : ∀ (i j : Fin 22), decide (cmpG (pwz j.val).1 (pwz j.val).2 (pwz i.val).1 (pwz i.val).2 < 0) = Nat.blt i.val j.val := by decide +kernel
theorem wt_rk (s : Sd) (L : Nat) (h1 : 1 ≤ L) (h5 : L ≤ 5) : ∃ k : Fin 22, k.val = L + rkO (21 - L) s ∧ wtB s L = pwz k.val := by
  have hL : inB (L : Int) 1 5 = true := by simp [inB]; omega
  cases hs : soldB s
  · refine ⟨⟨21, by omega⟩, by simp [rkO, hs]; omega, ?_⟩
    rw [wtB, if_neg (by rw [hs]; simp)]; rfl
  · obtain ⟨⟨x0, x1⟩, y0, y1⟩ := sold_yes hs
    have hd : dS s ≤ 16 := by unfold dS; omega
    refine ⟨⟨L + dS s, by omega⟩, by simp [rkO, hs], ?_⟩
    rw [wtB, if_pos (by rw [hs, hL]; rfl), powG, pwz]
    have e : (s.1.natAbs : Int) + s.2 + (L : Int) = ((L + dS s : Nat) : Int) := by unfold dS; omega
    rw [e]
    simp only
    by_cases hk : L + dS s ≤ 20
    · rw [if_pos (by omega), if_pos hk, Int.toNat_natCast]
    · rw [if_neg (by omega), if_neg hk]
theorem lt_in (L : Nat) (h1 : 1 ≤ L) (h5 : L ≤ 5) : ltS L = ltO (21 - L) := by
  funext s t
  obtain ⟨i, hi, ei⟩ := wt_rk s L h1 h5
  obtain ⟨j, hj, ej⟩ := wt_rk t L h1 h5
  unfold ltS cmpS ltO
  rw [ei, ej, pwz_lt i j, hi, hj]
  rw [Bool.eq_iff_iff, Nat.blt_eq, Nat.blt_eq]
  omega
theorem lt_out (L : Int) (h : inB L 1 5 = false) : ltS L = fun _ _ => false := by
  funext s t
  unfold ltS cmpS
  rw [wt_no (by rw [h, Bool.and_false]), wt_no (by rw [h, Bool.and_false])]
  rfl
/-- The soldiers in the order in which they are taken. -/
def firstS (L : Int) : List Sd := if inB L 1 5 = true then srtS else evS
theorem stab_first (L : Int) : stabL (ltS L) 153 evS = firstS L := by
  unfold firstS
  cases h : inB L 1 5
  · rw [lt_out L h]; exact stab_none
  · simp only [inB, Bool.and_eq_true, decide_eq_true_eq] at h
    obtain ⟨l, rfl⟩ := Int.eq_ofNat_of_zero_le (show 0 ≤ L by omega)
    rw [lt_in l (by omega) (by omega), stab_O]
    rfl
theorem srt_good : srtS.all soldB = true ∧ srtS.Nodup ∧ srtS.length = 153 := by decide +kernel
theorem ev_good : evS.all soldB = true ∧ evS.Nodup ∧ evS.length = 153 := by decide +kernel
theorem first_len (L : Int) : (firstS L).length = 153 := by
  unfold firstS
  split
  · exact srt_good.2.2
  · exact ev_good.2.2
theorem first_army (L : Int) {n : Nat} (hn : n ≤ 60) : armyB ((firstS L).take n) = true := by
  have hg : goodL (firstS L) := by
    unfold firstS
    split
    · exact ⟨List.all_eq_true.1 srt_good.1, srt_good.2.1⟩
    · exact ⟨List.all_eq_true.1 ev_good.1, ev_good.2.1⟩
  have hg2 : goodL ((firstS L).take n) := ⟨fun s hs => hg.1 s (List.mem_of_mem_take hs), hg.2.sublist (List.take_sublist ..)⟩
  rw [good_army hg2]
  exact decide_eq_true (Nat.le_trans (List.length_take_le ..) hn)
theorem may_yes : ∀ l : Fin 5, 1 ≤ l.val → mayB (srtS.take (leastB (l.val : Int)).toNat) (l.val : Int) = true := by decide +kernel
/-- The numbers that are tried. -/
theorem first_may (L : Int) {n : Nat} (hn : n ≤ 60) : mayB ((firstS L).take n) L = decide (leastB L ≠ -1 ∧ leastB L ≤ n) ∨ (leastB L ≠ -1 ∧ leastB L < n) := by
  by_cases h4 : 1 ≤ L ∧ L ≤ 4
  · obtain ⟨l, rfl⟩ := Int.eq_ofNat_of_zero_le (show 0 ≤ L by omega)
    have hne : leastB (l : Int) ≠ -1 ∧ 0 ≤ leastB (l : Int) := by
      have hl : l = 1 ∨ l = 2 ∨ l = 3 ∨ l = 4 := by omega
      rcases hl with rfl | rfl | rfl | rfl <;> decide
    have hf : firstS (l : Int) = srtS := by unfold firstS; rw [if_pos (by simp [inB]; omega)]
    rcases Int.lt_trichotomy (leastB (l : Int)) n with h | h | h
    · exact .inr ⟨hne.1, h⟩
    · left
      have := may_yes ⟨l, by omega⟩ (by simp only; omega)
      simp only [h, Int.toNat_natCast] at this
      rw [hf, this, h]
      symm; simp
      try omega
    · left
      have : mayB ((firstS (l : Int)).take n) l = false := by
        rw [← Bool.not_eq_true]
        intro hm
        have := may_least (by omega) (by omega) hm
        have hl := List.length_take_le n (firstS (l : Int))
        omega
      rw [this]
      symm; simp
      try omega
  · left
    have hb : leastB L = -1 := by unfold leastB; rw [if_neg (by omega), if_neg (by omega), if_neg (by omega), if_neg (by omega)]
    have hm : mayB ((firstS L).take n) L = false := by
      by_cases h5 : L = 5
      · subst h5; exact no_five _
      · refine may_no ?_
        have : inB L 1 5 = false := by simp [inB]; omega
        rw [this, Bool.and_false]
    rw [hm, hb]
    rfl
theorem ev_at : ∀ (y : Fin 9) (j : Fin 17), evS[17 * y.val + j.val]? = some ((j.val : Int) - 8, (y.val : Int)) := by decide +kernel
end Go.Proofs.Ytoginbmflomjeaa
