/- What the law of meetings asks of layers; of no program. -/
import Derived.Test.YtgkmapemnlgldaaLayMath
namespace Go.Proofs.Ytgkmapemnlgldaa
set_option linter.unusedVariables false
def sumN (f : Nat → Nat) : Nat → Nat
  | 0 => 0
  | k + 1 => sumN f k + f k
def maxN (f : Nat → Nat) : Nat → Nat
  | 0 => 0
  | k + 1 => max (maxN f k) (f k)
theorem sumN_congr {f g : Nat → Nat} (h : ∀ n, f n = g n) (k : Nat) : sumN f k = sumN g k := by
  rw [show f = g from funext h]
theorem sumN_add (f g : Nat → Nat) (k : Nat) : sumN (fun n => f n + g n) k = sumN f k + sumN g k := by
  induction k with
  | zero => rfl
  | succ k ih => simp only [sumN, ih]; omega
theorem sumN_zero (k : Nat) : sumN (fun _ => 0) k = 0 := by
  induction k with
  | zero => rfl
  | succ k ih => simp only [sumN, ih]
theorem sumN_one (v k : Nat) : sumN (fun n => if n = v then 1 else 0) k = if v < k then 1 else 0 := by
  induction k with
  | zero => simp [sumN]
  | succ k ih =>
    simp only [sumN, ih]
    by_cases h1 : v < k
    · rw [if_pos h1, if_neg (by omega), if_pos (by omega)]
    · rw [if_neg h1]
      by_cases h2 : k = v
      · rw [if_pos h2, if_pos (by omega)]
      · rw [if_neg h2, if_neg (by omega)]
theorem sumN_filter {P : Nat → Bool} {c : Nat → Nat → Bool} {K : Nat} : ∀ (L : List Nat), (∀ q ∈ L, sumN (fun n => if c n q = true then 1 else 0) K = if P q = true then 1 else 0) → sumN (fun n => (L.filter (c n)).length) K = (L.filter P).length
  | [], _ => by simpa using sumN_zero K
  | q :: L, h => by
    have ih := sumN_filter L (fun q hq => h q (List.mem_cons_of_mem _ hq))
    have e : ∀ n, ((q :: L).filter (c n)).length = (if c n q = true then 1 else 0) + (L.filter (c n)).length := fun n => by
      rw [List.filter_cons]
      split
      · simp [Nat.add_comm]
      · simp
    rw [sumN_congr e, sumN_add, ih, h q (List.mem_cons_self ..), List.filter_cons]
    split
    · simp [Nat.add_comm]
    · simp
theorem maxN_wid (len : Nat → Nat) (n : Nat) : maxN len (n + 1) = (widK len n).2 := by
  induction n with
  | zero => simp [maxN, widK]
  | succ n ih =>
    rw [maxN, ih]
    simp only [widK]
    split
    · next h => show max (widK len n).2 (len (n + 1)) = len (n + 1); omega
    · next h => omega
section
variable {W H Z P : Int} {a b N z p : Nat}
theorem Small5.lay (S : Small5 W H Z P a b N z p) {q n : Nat} : q ∈ layL false W H Z P (n : Int) ↔ q ∈ reachL false W H Z P ∧ pc 49 q + n = pc 49 p := by
  have hq := S.mem (q := q)
  obtain ⟨rfl, rfl, rfl, rfl, ho, h16, hp⟩ := S
  rw [layL_yes ho h16 hp n, lay_mem ho hp, hq]
theorem pc_part (ho : Ok (a : Int) (b : Int) N z) (hp : Part p z) : pc 49 p ≤ N := by
  have h1 := part_lt hp ho.zlt
  have hN := ho.nat.1
  have h49 := ho.n49
  have hn := ho.nat.2.2.2.2.2
  rw [hN] at hn
  have : pc 49 p = pc N p := by
    have key : ∀ k, pc (N + k) p = pc N p := fun k => by
      induction k with
      | zero => rfl
      | succ k ih =>
        have hb : bit p (N + k) = false := by
          unfold bit
          have : p < 2 ^ (N + k) := Nat.lt_of_lt_of_le h1 (Nat.pow_le_pow_right (by decide) (Nat.le_add_right _ _))
          simp [Nat.div_eq_of_lt this]
        rw [show N + (k + 1) = (N + k) + 1 from rfl, pc_next, hb, ih]
        simp
    have := key (49 - N)
    rwa [show N + (49 - N) = 49 by omega] at this
  rw [this]
  exact pc_le N p
theorem pc_none : ∀ {n q : Nat}, q < 2 ^ n → pc n q = 0 → q = 0
  | 0, q, h, _ => by simpa using h
  | n + 1, q, h, hp => by
    rw [pc_next] at hp
    have hb : bit q n = false := by
      cases hb : bit q n
      · rfl
      · rw [hb] at hp; simp at hp
    have h2 : q / 2 ^ n < 2 := Nat.div_lt_of_lt_mul (by rw [← Nat.pow_succ]; exact h)
    have h3 : q / 2 ^ n = 0 := by
      unfold bit at hb
      rw [decide_eq_false_iff_not] at hb
      generalize q / 2 ^ n = x at *
      omega
    have h4 : q < 2 ^ n := by
      rcases Nat.lt_or_ge q (2 ^ n) with h | h
      · exact h
      · have := (Nat.le_div_iff_mul_le (Nat.two_pow_pos n)).2 (show 1 * 2 ^ n ≤ q by omega)
        omega
    exact pc_none h4 (by omega)
/-- Behind the fifteenth layer there is nothing. -/
theorem Small5.lay_end (S : Small5 W H Z P a b N z p) {n : Nat} (hn : 15 < n) : layL false W H Z P (n : Int) = [] := by
  rw [List.eq_nil_iff_forall_not_mem]
  intro q hq
  obtain ⟨h1, h2⟩ := S.lay.1 hq
  have h3 := pc_part S.ok S.part
  have h4 := S.n16
  have h5 : pc 49 q = 0 := by omega
  have hq49 : q < 2 ^ 49 := Nat.lt_of_lt_of_le (part_lt (S.sub h1) S.ok.zlt) (Nat.pow_le_pow_right (by decide) (by omega))
  have h6 : q = 0 := pc_none hq49 h5
  subst h6
  have := S.zero h1
  subst this
  omega
theorem Small5.wid (S : Small5 W H Z P a b N z p) : widB W H Z P = ((widK (fun n => (layL false W H Z P (n : Int)).length) 15).1 : Int) := by
  unfold widB
  rw [S.small, S.pos]
  have := widK_stop (len := fun n => (layL false W H Z P (n : Int)).length) (n := 15) (fun m hm => by
    show (layL false W H Z P (m : Int)).length = 0
    rw [S.lay_end hm]; rfl) 35
  rw [show (50 : Nat) = 15 + 35 from rfl, this]
  rfl
/-- The layers are all that is reached; the widest is as wide as the widest is. -/
theorem Small5.layers (S : Small5 W H Z P a b N z p) : sumN (fun n => (layL false W H Z P (n : Int)).length) 16 = (reachL false W H Z P).length ∧ 0 ≤ widB W H Z P ∧ (layL false W H Z P (widB W H Z P)).length = maxN (fun n => (layL false W H Z P (n : Int)).length) 16 := by
  refine ⟨?_, by rw [S.wid]; omega, ?_⟩
  · have hlt : ∀ {q : Nat}, q ∈ reachL false W H Z P → q < 65536 := fun h => reach_lt h
    have e : ∀ n : Nat, (layL false W H Z P (n : Int)).length = ((List.range 65536).filter (fun q => decide (q ∈ reachL false W H Z P) && decide (pc 49 q + n = pc 49 p))).length := fun n => by
      refine ((List.perm_ext_iff_of_nodup ((layL_up _ _ _ _ _ _).imp (fun h => Nat.ne_of_lt h)) ((List.nodup_range).filter _)).2 fun q => ?_).length_eq
      rw [S.lay, List.mem_filter, List.mem_range, Bool.and_eq_true, decide_eq_true_eq, decide_eq_true_eq]
      exact ⟨fun h => ⟨hlt h.1, h⟩, fun h => h.2⟩
    have e2 : (reachL false W H Z P).length = ((List.range 65536).filter (fun q => decide (q ∈ reachL false W H Z P))).length := by
      refine ((List.perm_ext_iff_of_nodup (reach_nodup _ _ _ _ _) ((List.nodup_range).filter _)).2 fun q => ?_).length_eq
      rw [List.mem_filter, List.mem_range, decide_eq_true_eq]
      exact ⟨fun h => ⟨hlt h, h⟩, fun h => h.2⟩
    rw [sumN_congr e, e2]
    refine sumN_filter _ fun q _ => ?_
    by_cases hq : q ∈ reachL false W H Z P
    · have h1 := (S.pegs hq).1
      have h2 : pc 49 p - pc 49 q < 16 := by
        rcases Nat.lt_or_ge (pc 49 p - pc 49 q) 16 with h | h
        · exact h
        · exfalso
          have h3 := S.lay_end (n := pc 49 p - pc 49 q) (by omega)
          have h4 : q ∈ layL false W H Z P ((pc 49 p - pc 49 q : Nat) : Int) := S.lay.2 ⟨hq, by omega⟩
          rw [h3] at h4
          cases h4
      rw [decide_eq_true hq, if_pos rfl]
      rw [sumN_congr (g := fun n => if n = pc 49 p - pc 49 q then 1 else 0) (fun n => by
        by_cases h : pc 49 q + n = pc 49 p
        · rw [if_pos (by simp [h]), if_pos (by omega)]
        · rw [if_neg (by simp [h]), if_neg (by omega)]), sumN_one, if_pos h2]
    · rw [decide_eq_false hq]
      simpa using sumN_zero 16
  · have h1 := (widK_is (fun n => (layL false W H Z P (n : Int)).length) 15).2.1
    rw [S.wid, maxN_wid]
    exact h1
/-- Where the layers of both ends meet. -/
theorem Small5.meet (S : Small5 W H Z P a b N z p) {g : Nat} (hg : Part g z) {n d : Nat} (hd : countB W H Z P - countB W H Z (g : Int) = (d : Int)) (hn : n ≤ d) :
    decide (0 < (meetL W H Z P g n).length) = reachB false W H Z P g ∧ ∀ u ∈ meetL W H Z P (g : Int) n, ∃ q : Nat, u = q ∧ posB W H Z (q : Int) = true ∧ countB W H Z (q : Int) = countB W H Z P - n ∧ reachB false W H Z P (q : Int) = true ∧ reachB false W H Z (q : Int) g = true := by
  have S0 := S
  obtain ⟨rfl, rfl, rfl, rfl, ho, h16, hp⟩ := S
  have hgp := pos_of ho hg
  have h1 : countB (a : Int) b z (p : Int) = (pc 49 p : Nat) := count_pos S0.pos
  have h2 : countB (a : Int) b z (g : Int) = (pc 49 g : Nat) := count_pos hgp
  have hM : meetL (a : Int) b z p g n = commL (il (layL false (a : Int) b z p n)) (il (layL true (a : Int) b z g ((d - n : Nat) : Int))) := by
    unfold meetL
    rw [S0.small, S0.pos, hgp, hd]
    rw [if_pos (by simp; omega)]
    congr 3
    omega
  have hmem : ∀ u, u ∈ meetL (a : Int) b z p g n ↔ ∃ q : Nat, u = q ∧ Rch (stepL false (lnsOf (a : Int) b z)) p q ∧ Rch (stepL false (lnsOf (a : Int) b z)) q g ∧ pc 49 q + n = pc 49 p := fun u => by
    rw [hM, mem_comm (il_up (layL_up _ _ _ _ _ _)) (il_up (layL_up _ _ _ _ _ _))]
    constructor
    · rintro ⟨x, y⟩
      obtain ⟨q, hq, rfl⟩ := List.mem_map.1 x
      have hq2 := mem_il.1 y
      rw [layL_yes ho h16 hp n, lay_mem ho hp] at hq
      rw [layL_yes ho h16 hg (d - n), lay_mem_back ho hg] at hq2
      exact ⟨q, rfl, hq.1, hq2.1, hq.2⟩
    · rintro ⟨q, rfl, r1, r2, r3⟩
      refine ⟨mem_il.2 ?_, mem_il.2 ?_⟩
      · rw [layL_yes ho h16 hp n, lay_mem ho hp]; exact ⟨r1, r3⟩
      · rw [layL_yes ho h16 hg (d - n), lay_mem_back ho hg]; exact ⟨r2, by omega⟩
  constructor
  · rw [Bool.eq_iff_iff, decide_eq_true_eq]
    constructor
    · intro h
      obtain ⟨u, hu⟩ := List.exists_mem_of_length_pos h
      obtain ⟨q, -, r1, r2, -⟩ := (hmem u).1 hu
      exact reach_mem.1 (S0.mem.2 (r1.trans r2))
    · intro h
      obtain ⟨q, r1, r2, r3⟩ := lay_pass ho (S0.mem.1 (reach_mem.2 h)) n (by omega)
      exact List.length_pos_of_mem ((hmem _).2 ⟨q, rfl, r1, r2, r3⟩)
  · intro u hu
    obtain ⟨q, rfl, r1, r2, r3⟩ := (hmem u).1 hu
    have S1 := S0.at (S0.mem.2 r1)
    have h3 := count_pos S1.pos
    exact ⟨q, rfl, S1.pos, by rw [h3, h1]; omega, reach_mem.1 (S0.mem.2 r1), reach_mem.1 (S1.mem.2 r2)⟩
theorem Small5.back0 (S : Small5 W H Z P a b N z p) {g : Nat} (hg : Part g z) : (layL true W H Z (g : Int) 0).length = 1 := by
  obtain ⟨rfl, rfl, rfl, rfl, ho, h16, hp⟩ := S
  have := layL_yes (back := true) ho h16 hg 0
  rw [show ((0 : Nat) : Int) = 0 from rfl] at this
  rw [this]
  rfl
end
theorem comm_some : commL [1, 3, 5] [3, 4, 5] = [3, 5] := by decide
end Go.Proofs.Ytgkmapemnlgldaa
