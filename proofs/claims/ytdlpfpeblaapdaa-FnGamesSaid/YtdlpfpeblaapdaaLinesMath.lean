/- Lines as numbers: every line has its reverse, the middle lies between, no line is listed twice, so their number is even. Of no program. -/
import Derived.Test.YtdlpfpeblaapdaaLines
namespace Go.Proofs.Ytdlpfpeblaapdaa
set_option linter.unusedVariables false
set_option linter.unusedSimpArgs false
theorem lineN_some {a b z k d : Nat} {l : Ln} (h : lineN a b z k d = some l) : ∃ o t, stepN a b z k d = some o ∧ stepN a b z o d = some t ∧ l = ((k : Int), (o : Int), (t : Int)) := by
  unfold lineN at h
  cases h1 : stepN a b z k d with
  | none => rw [h1] at h; cases h
  | some o =>
    rw [h1] at h
    cases h2 : stepN a b z o d with
    | none => simp only [h2] at h; cases h
    | some t => simp only [h2, Option.some.injEq] at h; exact ⟨o, t, rfl, h2, h.symm⟩
theorem stepN_some {a b z k d j : Nat} (h : stepN a b z k d = some j) : nbr a b k d = some j ∧ bit z j = true := by
  unfold stepN at h
  cases h1 : nbr a b k d with
  | none => rw [h1] at h; cases h
  | some j' =>
    rw [h1] at h
    simp only at h
    split at h
    · rename_i hb; obtain rfl := Option.some.inj h; exact ⟨rfl, hb⟩
    · cases h
theorem stepN_of {a b z k d j : Nat} (h : nbr a b k d = some j) (hb : bit z j = true) : stepN a b z k d = some j := by
  unfold stepN; rw [h]; simp only; rw [if_pos hb]
def opp (d : Nat) : Nat := (d + 2) % 4
def delta (a d : Nat) : Int := if d = 0 then 1 else if d = 1 then (a : Int) else if d = 2 then -1 else -(a : Int)
theorem nbr_delta {a b k d j : Nat} (ha : 0 < a) (h : nbr a b k d = some j) : (j : Int) = k + delta a d := by
  unfold nbr at h
  unfold delta
  repeat' split at h
  all_goals first | (cases h; done) | skip
  all_goals simp only [Option.some.injEq] at h
  all_goals (simp only [*, if_true, if_false])
  · omega
  · omega
  · have := Nat.mod_le k a; omega
  · have h1 : a ≤ k := by
      rcases Nat.lt_or_ge k a with h' | h'
      · rw [Nat.div_eq_of_lt h'] at *; omega
      · exact h'
    omega
theorem nbr_opp {a b k d j : Nat} (ha : 0 < a) (hk : k < a * b) (hd : d < 4) (h : nbr a b k d = some j) : nbr a b j (opp d) = some k := by
  have hm := Nat.div_add_mod k a
  have hl := Nat.mod_lt k ha
  have hb : k / a < b := Nat.div_lt_of_lt_mul hk
  match d, hd with
  | 0, _ =>
    simp only [nbr, if_true] at h
    split at h
    · rename_i hc
      obtain rfl := Option.some.inj h
      have e : (k + 1) % a = k % a + 1 := by
        rw [Nat.add_mod, Nat.mod_eq_of_lt (show 1 < a by omega), Nat.mod_eq_of_lt hc]
      simp [opp, nbr, e]
    · cases h
  | 1, _ =>
    simp only [nbr, Nat.one_ne_zero, if_true, if_false] at h
    split at h
    · obtain rfl := Option.some.inj h
      simp [opp, nbr, Nat.add_div_right _ ha]
    · cases h
  | 2, _ =>
    simp only [nbr, if_true, show ¬ (2 : Nat) = 0 by decide, show ¬ (2 : Nat) = 1 by decide, if_false] at h
    split at h
    · rename_i hc
      obtain rfl := Option.some.inj h
      obtain ⟨k', rfl⟩ : ∃ k', k = k' + 1 := ⟨k - 1, by have := Nat.mod_le k a; omega⟩
      have e : k' % a + 1 < a := by
        rcases Nat.lt_or_ge (k' % a + 1) a with h' | h'
        · exact h'
        · have h1 := Nat.mod_lt k' ha
          have h2 : k' % a + 1 = a := by omega
          have h3 : (k' + 1) % a = 0 := by
            rw [← Nat.mod_add_div k' a, show k' % a + a * (k' / a) + 1 = a + a * (k' / a) by omega, Nat.add_mul_mod_self_left, Nat.mod_self]
          omega
      simp [opp, nbr, e]
    · cases h
  | 3, _ =>
    simp only [nbr, show ¬ (3 : Nat) = 0 by decide, show ¬ (3 : Nat) = 1 by decide, show ¬ (3 : Nat) = 2 by decide, if_false] at h
    split at h
    · rename_i hc
      obtain rfl := Option.some.inj h
      have h1 : a ≤ k := by
        rcases Nat.lt_or_ge k a with h' | h'
        · rw [Nat.div_eq_of_lt h'] at hc; omega
        · exact h'
      have e : (k - a) / a = k / a - 1 := by
        obtain ⟨m, rfl⟩ : ∃ m, k = m + a := ⟨k - a, by omega⟩
        rw [Nat.add_sub_cancel, Nat.add_div_right _ ha]; rfl
      have h2 : k - a + a = k := by omega
      have h3 : k / a - 1 + 1 < b := by omega
      simp [opp, nbr, e, h2, h3]
    · cases h
theorem step_opp {a b z k d j : Nat} (ha : 0 < a) (hk : k < a * b) (hd : d < 4) (hb : bit z k = true) (h : stepN a b z k d = some j) : stepN a b z j (opp d) = some k :=
  stepN_of (nbr_opp ha hk hd (stepN_some h).1) hb
theorem opp_lt (d : Nat) : opp d < 4 := Nat.mod_lt _ (by decide)
/-- A line of a board: its three holes. -/
def isLine (a b z : Nat) (l : Ln) : Prop := ∃ k o t d : Nat, d < 4 ∧ k < a * b ∧ bit z k = true ∧ stepN a b z k d = some o ∧ stepN a b z o d = some t ∧ l = ((k : Int), (o : Int), (t : Int))
theorem mem_row {a b z k : Nat} {l : Ln} : l ∈ lineRow a b z k 4 ↔ ∃ d, d < 4 ∧ lineN a b z k d = some l := by
  simp [lineRow, List.mem_filterMap]
theorem mem_lines {a b N z : Nat} (hN : a * b = N) {l : Ln} : l ∈ linesOf a b z (bitsOf N z) ↔ isLine a b z l := by
  unfold linesOf isLine
  rw [List.mem_flatMap]
  constructor
  · rintro ⟨k, hk, hl⟩
    obtain ⟨d, hd, hl⟩ := mem_row.1 hl
    obtain ⟨o, t, h1, h2, rfl⟩ := lineN_some hl
    obtain ⟨hk1, hk2⟩ := mem_bitsOf.1 hk
    exact ⟨k, o, t, d, hd, by omega, hk2, h1, h2, rfl⟩
  · rintro ⟨k, o, t, d, hd, hk, hb, h1, h2, rfl⟩
    exact ⟨k, mem_bitsOf.2 ⟨by omega, hb⟩, mem_row.2 ⟨d, hd, by simp [lineN, h1, h2]⟩⟩
/-- The reverse of a line. -/
def rev (l : Ln) : Ln := (l.2.2, l.2.1, l.1)
theorem rev_rev (l : Ln) : rev (rev l) = l := rfl
theorem isLine.rev {a b z : Nat} {l : Ln} (ha : 0 < a) (h : isLine a b z l) : isLine a b z (rev l) := by
  obtain ⟨k, o, t, d, hd, hk, hb, h1, h2, rfl⟩ := h
  have ho := stepN_lt ha hk h1
  have ht := stepN_lt ha ho h2
  exact ⟨t, o, k, opp d, opp_lt d, ht, (stepN_some h2).2, step_opp ha ho hd (stepN_some h1).2 h2, step_opp ha hk hd hb h1, rfl⟩
theorem isLine.mid {a b z : Nat} {l : Ln} (ha : 0 < a) (h : isLine a b z l) : l.1 + l.2.2 = 2 * l.2.1 ∧ l.1 ≠ l.2.1 ∧ l.1 ≠ l.2.2 ∧ l.2.1 ≠ l.2.2 := by
  obtain ⟨k, o, t, d, hd, hk, hb, h1, h2, rfl⟩ := h
  have e1 := nbr_delta ha (stepN_some h1).1
  have e2 := nbr_delta ha (stepN_some h2).1
  have hne : delta a d ≠ 0 := by
    unfold delta
    repeat' split
    all_goals omega
  simp only
  omega
/-- Two lines with one From and one To are one. -/
theorem isLine.one {a b z : Nat} {l l' : Ln} (ha : 0 < a) (h : isLine a b z l) (h' : isLine a b z l') (h1 : l.1 = l'.1) (h2 : l.2.2 = l'.2.2) : l = l' := by
  have e := (h.mid ha).1
  have e' := (h'.mid ha).1
  obtain ⟨f, o, t⟩ := l
  obtain ⟨f', o', t'⟩ := l'
  simp only at *
  subst h1 h2
  have : o = o' := by omega
  rw [this]
theorem betw_self {a b N z : Nat} (hN : a * b = N) (ha : 0 < a) {l : Ln} (h : l ∈ linesOf a b z (bitsOf N z)) : betwL (linesOf a b z (bitsOf N z)) l.1 l.2.2 = some l := by
  cases hf : betwL (linesOf a b z (bitsOf N z)) l.1 l.2.2 with
  | none =>
    have := List.find?_eq_none.1 hf l h
    simp at this
  | some l' =>
    have h1 := List.find?_some hf
    have h2 := List.mem_of_find?_eq_some hf
    simp only [Bool.and_eq_true, beq_iff_eq] at h1
    rw [((mem_lines hN).1 h2).one ha ((mem_lines hN).1 h) h1.1 h1.2]
theorem betw_rev {a b N z : Nat} (hN : a * b = N) (ha : 0 < a) {l : Ln} (h : l ∈ linesOf a b z (bitsOf N z)) : betwL (linesOf a b z (bitsOf N z)) l.2.2 l.1 = some (rev l) :=
  betw_self hN ha ((mem_lines hN).2 (((mem_lines hN).1 h).rev ha))
theorem two_mem {α : Type} {l : List α} {x y : α} (hx : x ∈ l) (hy : y ∈ l) (hne : x ≠ y) : 2 ≤ l.length := by
  match l, hx, hy with
  | [], hx, _ => cases hx
  | [z], hx, hy => simp at hx hy; exact absurd (hx.trans hy.symm) hne
  | _ :: _ :: _, _, _ => simp
theorem thr_two {a b N z : Nat} (hN : a * b = N) (ha : 0 < a) {l : Ln} (h : l ∈ linesOf a b z (bitsOf N z)) : 2 ≤ (thrL (linesOf a b z (bitsOf N z)) l.2.1).length := by
  have hl := (mem_lines hN).1 h
  have hr := (mem_lines hN).2 (hl.rev ha)
  refine two_mem (x := l) (y := rev l) (List.mem_filter.2 ⟨h, by simp [onB]⟩) (List.mem_filter.2 ⟨hr, by simp [onB, rev]⟩) ?_
  intro e
  have := congrArg (fun x : Ln => x.1) e
  exact (hl.mid ha).2.2.1 this
/-! The number of lines is even. -/
theorem even_of_rev {α : Type} [DecidableEq α] (r : α → α) (hrr : ∀ x, r (r x) = x) : ∀ (n : Nat) (l : List α), l.length = n → l.Nodup → (∀ x ∈ l, r x ∈ l) → (∀ x ∈ l, r x ≠ x) → n % 2 = 0 := by
  intro n
  induction n using Nat.strongRecOn with
  | _ n ih =>
    intro l hl hn hr hne
    match l, hl, hn, hr, hne with
    | [], hl, _, _, _ => simp at hl; omega
    | x :: t, hl, hn, hr, hne =>
      have hxt : r x ∈ t := by
        rcases List.mem_cons.1 (hr x (List.mem_cons_self)) with h | h
        · exact absurd h (hne x List.mem_cons_self)
        · exact h
      have hnt := (List.nodup_cons.1 hn)
      have hlen : (t.erase (r x)).length = n - 2 := by
        rw [List.length_erase_of_mem hxt]
        simp at hl
        omega
      have hpos := List.length_pos_of_mem hxt
      simp at hl
      have := ih (n - 2) (by omega) (t.erase (r x)) hlen (hnt.2.erase _) (fun y hy => by
        have hyt : y ∈ t := List.mem_of_mem_erase hy
        have hyx : y ≠ r x := fun e => by rw [e] at hy; exact (List.Nodup.not_mem_erase hnt.2) hy
        rcases List.mem_cons.1 (hr y (List.mem_cons_of_mem _ hyt)) with h | h
        · exact absurd (by rw [← h, hrr]) hyx
        · refine (List.mem_erase_of_ne ?_).2 h
          intro e
          have : y = x := by rw [← hrr y, e, hrr]
          rw [this] at hyt
          exact hnt.1 hyt) (fun y hy => hne y (List.mem_cons_of_mem _ (List.mem_of_mem_erase hy)))
      omega
theorem nbr_dir {a b k d d' j : Nat} (hd : d < 4) (hd' : d' < 4) (ha : 0 < a) (hb : k < a * b) (h : nbr a b k d = some j) (h' : nbr a b k d' = some j) : d = d' := by
  have e1 := nbr_delta ha h
  have e2 := nbr_delta ha h'
  have hm := Nat.mod_lt k ha
  unfold nbr at h h'
  unfold delta at e1 e2
  match d, hd, d', hd' with
  | 0, _, 0, _ | 1, _, 1, _ | 2, _, 2, _ | 3, _, 3, _ => rfl
  | 0, _, 1, _ | 1, _, 0, _ | 0, _, 2, _ | 2, _, 0, _ | 0, _, 3, _ | 3, _, 0, _ | 1, _, 2, _ | 2, _, 1, _ | 1, _, 3, _ | 3, _, 1, _ | 2, _, 3, _ | 3, _, 2, _ =>
    simp at e1 e2
    repeat' split at h
    all_goals first | (cases h; done) | skip
    all_goals repeat' split at h'
    all_goals first | (cases h'; done) | omega
theorem row_nodup {a b z k : Nat} (ha : 0 < a) (hk : k < a * b) : (lineRow a b z k 4).Nodup := by
  unfold lineRow List.Nodup
  rw [List.pairwise_filterMap]
  refine List.Pairwise.imp_of_mem ?_ List.nodup_range
  intro d d' hd hd' hne l h1 l' h2 e
  subst e
  obtain ⟨o, t, s1, s2, rfl⟩ := lineN_some h1
  obtain ⟨o', t', s1', s2', e⟩ := lineN_some h2
  have ho : o = o' := by
    have := congrArg (fun x : Ln => x.2.1) e
    simp only at this
    omega
  subst ho
  exact hne (nbr_dir (List.mem_range.1 hd) (List.mem_range.1 hd') ha hk (stepN_some s1).1 (stepN_some s1').1)
theorem lines_nodup {a b N z : Nat} (hN : a * b = N) (ha : 0 < a) : (linesOf a b z (bitsOf N z)).Nodup := by
  unfold linesOf List.Nodup
  rw [List.pairwise_flatMap]
  constructor
  · intro k hk
    exact row_nodup ha (by have := (mem_bitsOf.1 hk).1; omega)
  · refine List.Pairwise.imp ?_ (bitsOf_up N z)
    intro k k' hlt x hx y hy e
    subst e
    obtain ⟨d, _, h1⟩ := mem_row.1 hx
    obtain ⟨d', _, h2⟩ := mem_row.1 hy
    obtain ⟨o, t, -, -, rfl⟩ := lineN_some h1
    obtain ⟨o', t', -, -, e⟩ := lineN_some h2
    have := congrArg (fun x : Ln => x.1) e
    simp only at this
    omega
theorem lines_even {a b N z : Nat} (hN : a * b = N) (ha : 0 < a) : (linesOf a b z (bitsOf N z)).length % 2 = 0 :=
  even_of_rev rev rev_rev _ _ rfl (lines_nodup hN ha) (fun x hx => (mem_lines hN).2 (((mem_lines hN).1 hx).rev ha)) (fun x hx e => by
    have := congrArg (fun x : Ln => x.1) e
    exact (((mem_lines hN).1 hx).mid ha).2.2.1 this.symm)
/-- The number of lines of a rectangle. -/
theorem rect_lines (a b : Nat) (ha : 1 ≤ a) (ha7 : a ≤ 7) (hb : 1 ≤ b) (hb7 : b ≤ 7) : (linesOf a b (2 ^ (a * b) - 1) (bitsOf (a * b) (2 ^ (a * b) - 1))).length = 2 * ((a - 2) * b + a * (b - 2)) := by
  have key : ∀ x y : Fin 7, (linesOf (x.val + 1) (y.val + 1) (2 ^ ((x.val + 1) * (y.val + 1)) - 1) (bitsOf ((x.val + 1) * (y.val + 1)) (2 ^ ((x.val + 1) * (y.val + 1)) - 1))).length = 2 * ((x.val + 1 - 2) * (y.val + 1) + (x.val + 1) * (y.val + 1 - 2)) := by decide +kernel
  have := key ⟨a - 1, by omega⟩ ⟨b - 1, by omega⟩
  simp only [show a - 1 + 1 = a by omega, show b - 1 + 1 = b by omega] at this
  exact this
end Go.Proofs.Ytdlpfpeblaapdaa
