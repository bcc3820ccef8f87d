/- Lists of lists of ints, each list in a block of its own, all blocks between two bounds: equal ones are found equal; the marks are written into them; the marks are found again. -/
import Derived.Test.YtkenlighpelhiaaGreatLinesAll
import Derived.Test.YtkenlighpelhiaaGreatBoards
namespace Go.Proofs.YtkenlighpelhiaaGreat
open Go.RowKit
set_option linter.unusedVariables false
set_option linter.unusedSimpArgs false
theorem own_same {w w' : World} {b s n : Nat} {T : TypeId} {v : Value} {xs : List Value} (h : w.ownsRow b T s v n xs) (e : ∀ g, v.ownBlock = some g → w'.heap[g]? = w.heap[g]?) : w'.ownsRow b T s v n xs := by
  refine ⟨h.1, ?_⟩
  rcases h.2 with h1 | ⟨g, cap, cur, h1, h2, h3, rest⟩
  · exact .inl h1
  · refine .inr ⟨g, cap, cur, h1, h2, ?_, rest⟩
    rw [e g (by rw [h1]; rfl)]; exact h3
structure NestI (b B : Nat) (TO TI : TypeId) (v : Value) (n : Nat) (vs : List Value) (xss : List (List Int)) (w : World) : Prop where
  len : xss.length = n
  outer : w.ownsRow b TO 1 v n vs
  top : ∀ g, v.ownBlock = some g → g < B
  inner : ∀ (i : Nat) (xs : List Int), xss[i]? = some xs → ∃ u, vs[i]? = some u ∧ w.ownsRow b TI 1 u xs.length (iv xs) ∧ ∀ g, u.ownBlock = some g → g < B
  apart : ∀ (i j : Nat) (u u' : Value), i ≠ j → vs[i]? = some u → vs[j]? = some u' → u.ownBlock = none ∨ u.ownBlock ≠ u'.ownBlock
  size : B ≤ w.heap.size
section
variable {b B n : Nat} {TO TI : TypeId} {v : Value} {vs : List Value} {xss : List (List Int)} {w w' : World}
theorem NestI.under (h : NestI b B TO TI v n vs xss w) (hb : Below B w w') : NestI b B TO TI v n vs xss w' := by
  refine ⟨h.len, own_same h.outer (fun g e => hb.block g (h.top g e)), h.top, fun i xs hi => ?_, h.apart, Nat.le_trans h.size hb.size⟩
  obtain ⟨u, h1, h2, h3⟩ := h.inner i xs hi
  exact ⟨u, h1, own_same h2 (fun g e => hb.block g (h3 g e)), h3⟩
theorem NestI.later (h : NestI b B TO TI v n vs xss w) (hb : Below w.heap.size w w') : NestI b B TO TI v n vs xss w' := h.under (hb.mono h.size)
theorem NestI.form (h : NestI b B TO TI v n vs xss w) : ∃ a c, v = .slice a n c := by
  rcases Go.Joins.ownsRow_forms h.outer with ⟨rfl, h0⟩ | ⟨g, cap, rfl⟩
  · exact ⟨none, 0, by rw [h0]⟩
  · exact ⟨_, _, rfl⟩
theorem NestI.block (h : NestI b B TO TI v n vs xss w) (hn : 0 < n) : ∃ g c, v = .slice (some ⟨g, 0, none⟩) n c := by
  rcases Go.Joins.ownsRow_forms h.outer with ⟨_, h0⟩ | ⟨g, cap, rfl⟩
  · omega
  · exact ⟨_, _, rfl⟩
theorem NestI.mono {b' : Nat} (h : NestI b B TO TI v n vs xss w) (hb : b' ≤ b) : NestI b' B TO TI v n vs xss w := by
  have base : ∀ {T : TypeId} {s m : Nat} {u : Value} {ys : List Value}, w.ownsRow b T s u m ys → w.ownsRow b' T s u m ys := fun {T s m u ys} ho => by
    refine ⟨ho.1, ?_⟩
    rcases ho.2 with h | ⟨g, cap, cur, hv, hg, rest⟩
    · exact .inl h
    · exact .inr ⟨g, cap, cur, hv, Nat.le_trans hb hg, rest⟩
  refine ⟨h.len, base h.outer, h.top, fun i xs hi => ?_, h.apart, h.size⟩
  obtain ⟨u, h1, h2, h3⟩ := h.inner i xs hi
  exact ⟨u, h1, base h2, h3⟩
end
/-- The marks of a list of lists, from K on. -/
def nmarks : Nat → List (List Int) → List (List Int)
  | _, [] => []
  | K, xs :: xss => imarks K xs.length :: nmarks (K + xs.length) xss
def total (xss : List (List Int)) : Nat := (xss.map List.length).sum
theorem nmarks_length : ∀ (xss : List (List Int)) (K : Nat), (nmarks K xss).length = xss.length
  | [], K => rfl
  | xs :: xss, K => by simp [nmarks, nmarks_length xss]
/-- The marks before place i, and their number. -/
def upto (xss : List (List Int)) (i : Nat) : Nat := total (xss.take i)
theorem upto_zero (xss : List (List Int)) : upto xss 0 = 0 := rfl
theorem upto_next {xss : List (List Int)} {i : Nat} {xs : List Int} (h : xss[i]? = some xs) : upto xss (i + 1) = upto xss i + xs.length := by
  unfold upto total
  rw [List.take_add_one, h]
  simp
theorem upto_all (xss : List (List Int)) : upto xss xss.length = total xss := by unfold upto; rw [List.take_length]
theorem upto_le (xss : List (List Int)) (i : Nat) : upto xss i ≤ total xss := by
  unfold upto total
  have h : xss = xss.take i ++ xss.drop i := (List.take_append_drop i xss).symm
  conv => rhs; rw [h]
  rw [List.map_append, List.sum_append]
  exact Nat.le_add_right ..
theorem nmarks_get : ∀ (xss : List (List Int)) (K i : Nat) (xs : List Int), xss[i]? = some xs → (nmarks K xss)[i]? = some (imarks (K + upto xss i) xs.length)
  | [], K, i, xs, h => by simp at h
  | x :: xss, K, 0, xs, h => by
    simp only [List.getElem?_cons_zero, Option.some.injEq] at h
    subst h
    simp [nmarks, upto, total]
  | x :: xss, K, i + 1, xs, h => by
    rw [List.getElem?_cons_succ] at h
    have := nmarks_get xss (K + x.length) i xs h
    simp only [nmarks, List.getElem?_cons_succ, this]
    congr 2
    simp [upto, total]; omega
/-- The marks up to place k, behind them the list as it was. -/
def partN (K : Nat) (xss : List (List Int)) (k : Nat) : List (List Int) := (nmarks K xss).take k ++ xss.drop k
theorem partN_zero (K : Nat) (xss : List (List Int)) : partN K xss 0 = xss := by simp [partN]
theorem partN_all {K n : Nat} {xss : List (List Int)} (h : xss.length = n) : partN K xss n = nmarks K xss := by
  unfold partN
  rw [List.drop_of_length_le (by omega), List.append_nil, List.take_of_length_le (by rw [nmarks_length]; omega)]
theorem partN_get {K k : Nat} {xss : List (List Int)} {xs : List Int} (h : xss[k]? = some xs) : (partN K xss k)[k]? = some xs := by
  have hk := (List.getElem?_eq_some_iff.1 h).1
  unfold partN
  rw [List.getElem?_append_right (by rw [List.length_take, nmarks_length]; omega), List.length_take, nmarks_length, Nat.min_eq_left (by omega), Nat.sub_self, List.getElem?_drop, Nat.add_zero]
  exact h
theorem partN_next {K k : Nat} {xss : List (List Int)} {xs : List Int} (h : xss[k]? = some xs) : (partN K xss k).set k (imarks (K + upto xss k) xs.length) = partN K xss (k + 1) := by
  have hk := (List.getElem?_eq_some_iff.1 h).1
  have hl : ((nmarks K xss).take k).length = k := by rw [List.length_take, nmarks_length]; omega
  unfold partN
  rw [List.set_append_right _ _ (by omega), hl, Nat.sub_self, List.take_add_one, nmarks_get xss K k xs h]
  have hd : xss.drop k = xs :: xss.drop (k + 1) := by
    rw [List.drop_eq_getElem_cons hk]
    congr 1
    have := (List.getElem?_eq_some_iff.1 h).2
    exact this
  rw [hd]
  simp
section
variable {b B n : Nat} {TO TI : TypeId} {v : Value} {vs : List Value} {xss : List (List Int)} {w w' : World}
/-- One of the lists is written. -/
theorem NestI.set (h : NestI b B TO TI v n vs xss w) (hne : TO ≠ TI) {i : Nat} {u : Value} {ys xs : List Int} (hx : xss[i]? = some xs) (hu : vs[i]? = some u) (hl : ys.length = xs.length) (ho : w'.ownsRow b TI 1 u xs.length (iv ys)) (hg : w.grownBy w' u.ownBlock) : NestI b B TO TI v n vs (xss.set i ys) w' := by
  obtain ⟨u0, e0, hu0, ht⟩ := h.inner i xs hx
  obtain rfl : u0 = u := by rw [hu] at e0; exact (Option.some.inj e0).symm
  have hi := (List.getElem?_eq_some_iff.1 hx).1
  refine ⟨by rw [List.length_set]; exact h.len, h.outer.kept hg (own_ne h.outer hu0 hne), h.top, fun j zs hj => ?_, h.apart, Nat.le_trans h.size hg.size⟩
  rw [List.getElem?_set] at hj
  by_cases e : i = j
  · subst e
    rw [if_pos rfl, if_pos hi] at hj
    obtain rfl := Option.some.inj hj
    exact ⟨u0, hu, by rw [hl]; exact ho, ht⟩
  · rw [if_neg e] at hj
    obtain ⟨u1, e1, h1, h2⟩ := h.inner j zs hj
    exact ⟨u1, e1, h1.kept hg (h.apart j i u1 u0 (fun e' => e e'.symm) e1 hu), h2⟩
theorem sl_form {T : TypeId} {m : Nat} {u : Value} {ys : List Value} (h : w.ownsRow b T 1 u m ys) : ∃ a c, u = .slice a m c := by
  rcases Go.Joins.ownsRow_forms h with ⟨rfl, h0⟩ | ⟨g, cap, rfl⟩
  · exact ⟨none, 0, by rw [h0]⟩
  · exact ⟨_, _, rfl⟩
end
section
variable {b B n : Nat} {TO TI : TypeId} {v : Value} {vs : List Value} {xss : List (List Int)} {w w' : World}
theorem NestI.raise {B' : Nat} (h : NestI b B TO TI v n vs xss w) (h1 : B ≤ B') (h2 : B' ≤ w.heap.size) : NestI b B' TO TI v n vs xss w := by
  refine ⟨h.len, h.outer, fun g e => Nat.lt_of_lt_of_le (h.top g e) h1, fun i xs hi => ?_, h.apart, h2⟩
  obtain ⟨u, e1, e2, e3⟩ := h.inner i xs hi
  exact ⟨u, e1, e2, fun g e => Nat.lt_of_lt_of_le (e3 g e) h1⟩
/-- A list that lies in a block of its own is owned. -/
theorem own_new {p m : Nat} {cells : Array Value} (hb : b ≤ p) (hm : cells.size = m) (hl : m ≤ maxLen) (hp : w.heap[p]? = some (.cells cells TI (0, 0))) : w.ownsRow b TI 1 (.slice (some ⟨p, 0, none⟩) m m) m cells.toList :=
  ⟨by simp [hm], .inr ⟨p, m, cells, rfl, hb, hp, Nat.le_refl _, hl, by simp [hm], by rw [Nat.mul_one, List.take_of_length_le (by simp [hm])]⟩⟩
/-- One list more: it lies in block p, and the outer list has been appended to. -/
theorem NestI.push (h : NestI b B TO TI v n vs xss w) (hne : TO ≠ TI) {p m : Nat} {ys : List Int} (hB : B ≤ p) (hbp : b ≤ p) (hm : ys.length = m) (hl : m ≤ maxLen) (hp : w.heap[p]? = some (.cells (iv ys).toArray TI (0, 0)))
    {v' : Value} (ho : w'.ownsRow b TO 1 v' (n + 1) (vs ++ [.slice (some ⟨p, 0, none⟩) m m])) (hg : w.grownBy w' v.ownBlock) : NestI b w'.heap.size TO TI v' (n + 1) (vs ++ [.slice (some ⟨p, 0, none⟩) m m]) (xss ++ [ys]) w' := by
  have hvl : vs.length = n := by have := h.outer.1; simpa using this
  have hu : w.ownsRow b TI 1 (.slice (some ⟨p, 0, none⟩) m m) m (iv ys) := by
    have := own_new (w := w) (b := b) (TI := TI) (p := p) (m := m) (cells := (iv ys).toArray) hbp (by simp [iv, hm]) hl hp
    simpa using this
  have hu' := hu.kept hg (own_ne hu h.outer (fun e => hne e.symm))
  refine ⟨by rw [List.length_append, h.len]; rfl, ho, fun g e => (ho.lt g e).2, fun i xs hi => ?_, fun i j u1 u2 hij h1 h2 => ?_, Nat.le_refl _⟩
  · rcases Nat.lt_trichotomy i n with hlt | rfl | hgt
    · rw [List.getElem?_append_left (by rw [h.len]; exact hlt)] at hi
      obtain ⟨u, e1, e2, e3⟩ := h.inner i xs hi
      refine ⟨u, by rw [List.getElem?_append_left (by rw [hvl]; exact hlt)]; exact e1, e2.kept hg (own_ne e2 h.outer (fun e => hne e.symm)), fun g e => Nat.lt_of_lt_of_le (e3 g e) (Nat.le_trans h.size hg.size)⟩
    · rw [List.getElem?_append_right (by rw [h.len]; exact Nat.le_refl _), h.len, Nat.sub_self] at hi
      simp only [List.getElem?_cons_zero, Option.some.injEq] at hi
      subst hi
      refine ⟨_, by rw [List.getElem?_append_right (by rw [hvl]; exact Nat.le_refl _), hvl, Nat.sub_self]; rfl, by rw [hm]; exact hu', fun g e => ?_⟩
      have : p = g := by simpa [Value.ownBlock] using e
      subst this
      exact (hu'.lt p rfl).2
    · rw [List.getElem?_eq_none (by simp [h.len]; omega)] at hi
      cases hi
  · have old : ∀ (i : Nat) (u : Value), i < n → vs[i]? = some u → ∀ g, u.ownBlock = some g → g < p := fun i u hin hu0 g e => by
      obtain ⟨xs, hx⟩ : ∃ xs, xss[i]? = some xs := ⟨_, List.getElem?_eq_getElem (by rw [h.len]; exact hin)⟩
      obtain ⟨u', e1, -, e3⟩ := h.inner i xs hx
      rw [hu0] at e1
      cases e1
      exact Nat.lt_of_lt_of_le (e3 g e) hB
    have split : ∀ (i : Nat) (u : Value), (vs ++ [Value.slice (some ⟨p, 0, none⟩) m m])[i]? = some u → (i < n ∧ vs[i]? = some u) ∨ (i = n ∧ u = .slice (some ⟨p, 0, none⟩) m m) := fun i u hu0 => by
      rcases Nat.lt_trichotomy i n with hlt | rfl | hgt
      · rw [List.getElem?_append_left (by rw [hvl]; exact hlt)] at hu0
        exact .inl ⟨hlt, hu0⟩
      · rw [List.getElem?_append_right (by rw [hvl]; exact Nat.le_refl _), hvl, Nat.sub_self] at hu0
        simp only [List.getElem?_cons_zero, Option.some.injEq] at hu0
        exact .inr ⟨rfl, hu0.symm⟩
      · rw [List.getElem?_eq_none (by simp [hvl]; omega)] at hu0
        cases hu0
    rcases split i u1 h1 with ⟨i1, i2⟩ | ⟨i1, i2⟩ <;> rcases split j u2 h2 with ⟨j1, j2⟩ | ⟨j1, j2⟩
    · exact h.apart i j u1 u2 hij i2 j2
    · subst j2
      cases hu1 : u1.ownBlock with
      | none => exact .inl rfl
      | some g =>
        right
        intro e
        have := old i u1 i1 i2 g hu1
        have : g = p := by simpa [Value.ownBlock] using e
        omega
    · subst i2
      right
      intro e
      have e' : u2.ownBlock = some p := e.symm
      have := old j u2 j1 j2 p e'
      omega
    · omega
theorem nest_nil (hb : b ≤ w.heap.size) {g : Nat} (ho : w.ownsRow b TO 1 v 0 []) : NestI b w.heap.size TO TI v 0 [] [] w :=
  ⟨rfl, ho, fun g e => (ho.lt g e).2, fun i xs h => by simp at h, fun i j u u' _ h => by simp at h, Nat.le_refl _⟩
end
end Go.Proofs.YtkenlighpelhiaaGreat
