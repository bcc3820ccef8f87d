/- What is told of classes and keys: a jump turns each element of the class, so a game keeps the key; two holes with one key lie three apart; a last peg's hole has the key. Of no program. -/
import Derived.Test.YtlcoojgnokphmaaClassB
import Derived.Test.YtlcoojgnokphmaaGames
namespace Go.Proofs.Ytlcoojgnokphmaa
set_option linter.unusedVariables false
set_option linter.unusedSimpArgs false
theorem xy_of {a x y j : Nat} (hx : x < a) (h : j = a * y + x) : j % a = x ∧ j / a = y := by
  subst h
  exact ⟨by rw [Nat.mul_add_mod, Nat.mod_eq_of_lt hx], by rw [Nat.mul_add_div (by omega), Nat.div_eq_of_lt hx, Nat.add_zero]⟩
/-- A step in a direction, in columns and rows. -/
def StepXY (a k d j : Nat) : Prop := (d = 0 ∧ j % a = k % a + 1 ∧ j / a = k / a) ∨ (d = 1 ∧ j % a = k % a ∧ j / a = k / a + 1) ∨ (d = 2 ∧ k % a = j % a + 1 ∧ k / a = j / a) ∨ (d = 3 ∧ k % a = j % a ∧ k / a = j / a + 1)
theorem nbr_xy {a b k d j : Nat} (ha : 0 < a) (hd : d < 4) (h : nbr a b k d = some j) : StepXY a k d j := by
  have hk := Nat.div_add_mod k a
  have hl := Nat.mod_lt k ha
  match d, hd with
  | 0, _ =>
    simp only [nbr, if_true] at h
    split at h
    · rename_i hc
      obtain rfl := Option.some.inj h
      obtain ⟨h1, h2⟩ := xy_of (a := a) (x := k % a + 1) (y := k / a) (j := k + 1) hc (by omega)
      exact .inl ⟨rfl, h1, h2⟩
    · cases h
  | 1, _ =>
    simp only [nbr, Nat.one_ne_zero, if_true, if_false] at h
    split at h
    · obtain rfl := Option.some.inj h
      obtain ⟨h1, h2⟩ := xy_of (a := a) (x := k % a) (y := k / a + 1) (j := k + a) hl (by rw [Nat.mul_add, Nat.mul_one]; omega)
      exact .inr (.inl ⟨rfl, h1, h2⟩)
    · cases h
  | 2, _ =>
    simp only [nbr, if_true, show ¬ (2 : Nat) = 0 by decide, show ¬ (2 : Nat) = 1 by decide, if_false] at h
    split at h
    · rename_i hc
      obtain rfl := Option.some.inj h
      obtain ⟨h1, h2⟩ := xy_of (a := a) (x := k % a - 1) (y := k / a) (j := k - 1) (by omega) (by omega)
      exact .inr (.inr (.inl ⟨rfl, by omega, by omega⟩))
    · cases h
  | 3, _ =>
    simp only [nbr, show ¬ (3 : Nat) = 0 by decide, show ¬ (3 : Nat) = 1 by decide, show ¬ (3 : Nat) = 2 by decide, if_false] at h
    split at h
    · rename_i hc
      obtain rfl := Option.some.inj h
      obtain ⟨y, hy⟩ : ∃ y, k / a = y + 1 := ⟨k / a - 1, by omega⟩
      rw [hy, Nat.mul_add, Nat.mul_one] at hk
      obtain ⟨h1, h2⟩ := xy_of (a := a) (x := k % a) (y := y) (j := k - a) hl (by omega)
      exact .inr (.inr (.inr ⟨rfl, h1.symm, by omega⟩))
    · cases h
/-- The three holes of a line change each element of a class together just once or thrice. -/
theorem line_hit {a b z : Nat} {l : Ln} (ha : 0 < a) (h : isLine a b z l) {j : Nat} (hj : j < 6) : (hitC a l.1.toNat j ^^ hitC a l.2.1.toNat j ^^ hitC a l.2.2.toNat j) = true := by
  obtain ⟨k, o, t, d, hd, hk, hz, h1, h2, rfl⟩ := h
  have s1 := nbr_xy ha hd (stepN_some h1).1
  have s2 := nbr_xy ha hd (stepN_some h2).1
  show (hitC a k j ^^ hitC a o j ^^ hitC a t j) = true
  apply hit_line hj
  rcases s1 with ⟨rfl, e1, e2⟩ | ⟨rfl, e1, e2⟩ | ⟨rfl, e1, e2⟩ | ⟨rfl, e1, e2⟩
  · rcases s2 with ⟨-, e3, e4⟩ | ⟨h0, -⟩ | ⟨h0, -⟩ | ⟨h0, -⟩
    · exact .inl ⟨_, _, ⟨rfl, rfl⟩, .inl ⟨⟨e1, e2⟩, by omega, by omega⟩⟩
    all_goals omega
  · rcases s2 with ⟨h0, -⟩ | ⟨-, e3, e4⟩ | ⟨h0, -⟩ | ⟨h0, -⟩
    · omega
    · exact .inl ⟨_, _, ⟨rfl, rfl⟩, .inr ⟨⟨e1, e2⟩, by omega, by omega⟩⟩
    all_goals omega
  · rcases s2 with ⟨h0, -⟩ | ⟨h0, -⟩ | ⟨-, e3, e4⟩ | ⟨h0, -⟩
    · omega
    · omega
    · exact .inr ⟨_, _, ⟨rfl, rfl⟩, .inl ⟨⟨e3, e4⟩, by omega, by omega⟩⟩
    · omega
  · rcases s2 with ⟨h0, -⟩ | ⟨h0, -⟩ | ⟨h0, -⟩ | ⟨-, e3, e4⟩
    · omega
    · omega
    · omega
    · exact .inr ⟨_, _, ⟨rfl, rfl⟩, .inr ⟨⟨e3, e4⟩, by omega, by omega⟩⟩
theorem lns_hit {W H Z : Int} {l : Ln} (ho : okB W H Z = true) (hl : (lnsOf W H Z).contains l = true) {j : Nat} (hj : j < 6) : (hitC W.toNat l.1.toNat j ^^ hitC W.toNat l.2.1.toNat j ^^ hitC W.toNat l.2.2.toNat j) = true := by
  obtain ⟨a, b, N, z, rfl, rfl, rfl, h⟩ := okNat ho
  obtain ⟨hN, ha, -⟩ := h.nat
  rw [lnsOf_ok h, List.contains_iff_mem] at hl
  exact line_hit ha ((mem_lines hN).1 hl) hj
theorem pos_ok {W H Z P : Int} (h : posB W H Z P = true) : okB W H Z = true := by
  simp only [posB, Bool.and_eq_true] at h; exact h.1.1
/-- An element of a position's class. -/
def cB (W P : Int) (j : Nat) : Bool := parC W.toNat (bitsOf 49 P.toNat) j
/-- A jump turns each element. -/
theorem jump_par {W H Z P : Int} {l : Ln} (h : jumpB W H Z P l = true) {j : Nat} (hj : j < 6) : cB W (flipL P l) j = !cB W P j := by
  obtain ⟨a, b, N, z, p, f, o, t, S, hbef⟩ := jump_set h
  obtain ⟨h1, h2, h3⟩ := jump_parts h
  have hh := lns_hit (pos_ok h1) h2 hj
  obtain ⟨hpb, hf, ho, ht⟩ := S.bounds
  rw [S.flip, S.eP, S.eW]
  rw [S.at'.eq, S.eW] at hh
  exact parC_flip S.at'.fo S.at'.ft S.at'.ot hf ho ht j hh
/-- A game turns each element as often as it has jumps. -/
theorem run_par {W H Z P q : Int} {xs : List Ln} (h : runO (doB W H Z) P xs = some q) {j : Nat} (hj : j < 6) : cB W q j = (cB W P j ^^ decide (xs.length % 2 = 1)) := by
  induction xs generalizing P with
  | nil =>
    obtain rfl := Option.some.inj ((runO_nil _ P).symm.trans h)
    simp
  | cons l xs ih =>
    obtain ⟨hjm, h2⟩ := run_step h
    rw [ih h2, jump_par hjm hj, List.length_cons]
    rcases Nat.mod_two_eq_zero_or_one xs.length with e | e
    · rw [show (xs.length + 1) % 2 = 1 by omega, e]; cases cB W P j <;> rfl
    · rw [show (xs.length + 1) % 2 = 0 by omega, e]; cases cB W P j <;> rfl
theorem classB_six {W H Z P : Int} (h : posB W H Z P = true) : classB W H Z P = [(cB W P 0).toNat, (cB W P 1).toNat, (cB W P 2).toNat, (cB W P 3).toNat, (cB W P 4).toNat, (cB W P 5).toNat] := by
  unfold classB; rw [if_pos h]; rfl
theorem keyB_four {W H Z P : Int} (h : posB W H Z P = true) : keyB W H Z P = [(cB W P 0 ^^ cB W P 1).toNat, (cB W P 1 ^^ cB W P 2).toNat, (cB W P 3 ^^ cB W P 4).toNat, (cB W P 4 ^^ cB W P 5).toNat] := by
  unfold keyB; rw [if_pos h]
  show keyL [(cB W P 0).toNat, (cB W P 1).toNat, (cB W P 2).toNat, (cB W P 3).toNat, (cB W P 4).toNat, (cB W P 5).toNat] = _
  rw [keyL_six, dif_bool, dif_bool, dif_bool, dif_bool]
theorem xor_both (a b e : Bool) : ((a ^^ e) ^^ (b ^^ e)) = (a ^^ b) := by cases a <;> cases b <;> cases e <;> rfl
/-- A game keeps the key. -/
theorem run_key {W H Z P q : Int} {xs : List Ln} (hp : posB W H Z P = true) (hq : posB W H Z q = true) (h : runO (doB W H Z) P xs = some q) : keyB W H Z q = keyB W H Z P := by
  rw [keyB_four hp, keyB_four hq, run_par h (show 0 < 6 by decide), run_par h (show 1 < 6 by decide), run_par h (show 2 < 6 by decide), run_par h (show 3 < 6 by decide), run_par h (show 4 < 6 by decide), run_par h (show 5 < 6 by decide), xor_both, xor_both, xor_both, xor_both]
theorem num_key {W H Z P : Int} (h : posB W H Z P = true) : numB W H Z P = (numL (keyB W H Z P) : Nat) := by
  unfold numB keyB; rw [if_pos h, if_pos h]
theorem run_num {W H Z P q : Int} {xs : List Ln} (hp : posB W H Z P = true) (hq : posB W H Z q = true) (h : runO (doB W H Z) P xs = some q) : numB W H Z q = numB W H Z P := by
  rw [num_key hp, num_key hq, run_key hp hq h]
theorem same_of {W H Z P Q : Int} (hp : posB W H Z P = true) (hq : posB W H Z Q = true) (h : keyB W H Z P = keyB W H Z Q) : sameB W H Z P Q = true := by
  rw [same_yes hp hq, h]; exact beq_self_eq_true _
theorem same_parts {W H Z P Q : Int} (h : sameB W H Z P Q = true) : posB W H Z P = true ∧ posB W H Z Q = true ∧ keyB W H Z P = keyB W H Z Q := by
  simp only [sameB, Bool.and_eq_true] at h
  exact ⟨h.1.1, h.1.2, by simpa using h.2⟩
theorem bits_zero : bitsOf 49 0 = [] := by decide +kernel
/-- The empty position's key. -/
theorem num_zero {W H : Int} {N z : Nat} (ho : Ok W H N z) : numB W H z 0 = 0 := by
  have h : posB W H z (0 : Nat) = true := pos_of ho (part_zero z)
  have e := num_key h
  rw [keyB_four h] at e
  have hc : ∀ j, cB W (0 : Nat) j = false := fun j => by
    unfold cB
    rw [show ((0 : Nat) : Int).toNat = 0 from rfl, bits_zero]; rfl
  simp only [hc] at e
  exact e
/-! single pegs -/
theorem bits_pow {k : Nat} (hk : k < 49) : bitsOf 49 (2 ^ k) = [k] := by
  have h1 : (bitsOf 49 (2 ^ k)).length = 1 := by rw [bitsOf_length, pc_one hk]
  obtain ⟨x, hx⟩ := List.length_eq_one_iff.1 h1
  have h2 : k ∈ bitsOf 49 (2 ^ k) := mem_bitsOf.2 ⟨hk, by rw [bit_pow]; simp⟩
  rw [hx] at h2 ⊢
  rw [List.mem_singleton.1 h2]
theorem one_hole {W H : Int} {N z k : Nat} (ho : Ok W H N z) (hk : k ∈ bitsOf 49 z) : oneB W H z k = ((2 ^ k : Nat) : Int) ∧ k < 49 ∧ bit z k = true := by
  have h1 := mem_bitsOf.1 hk
  rw [ho.list] at hk
  have h2 := mem_bitsOf.1 hk
  have h3 := holeB_in ho h2.1
  refine ⟨?_, h1.1, h1.2⟩
  unfold oneB
  rw [if_pos (by rw [h3]; exact h1.2)]
  simp
theorem cB_one {W : Int} {k : Nat} (hk : k < 49) (j : Nat) : cB W ((2 ^ k : Nat) : Int) j = hitC W.toNat k j := by
  unfold cB
  rw [show ((2 ^ k : Nat) : Int).toNat = 2 ^ k from rfl, bits_pow hk]
  simp [parC]
theorem three_a : ∀ i i' : Fin 3, (decide (i.val = 0) ^^ decide (i.val = 1)) = (decide (i'.val = 0) ^^ decide (i'.val = 1)) → (decide (i.val = 1) ^^ decide (i.val = 2)) = (decide (i'.val = 1) ^^ decide (i'.val = 2)) → i.val = i'.val := by decide
theorem hit_lo (W k : Nat) {j : Nat} (hj : j < 3) : hitC W k j = decide (r1 W k = j) := by
  have := r2_le W k
  unfold hitC
  rw [show decide (r2 W k = j) = false by rw [decide_eq_false_iff_not]; omega, Bool.or_false]
theorem hit_hi (W k : Nat) {j : Nat} (hj : j < 3) : hitC W k (3 + j) = decide ((k % W + 2 * (k / W)) % 3 = j) := by
  have := r1_lt W k
  unfold hitC
  rw [show decide (r1 W k = 3 + j) = false by rw [decide_eq_false_iff_not]; omega, Bool.false_or, decide_eq_decide]
  unfold r2; omega
theorem toNat_inj {a b : Bool} (h : a.toNat = b.toNat) : a = b := by cases a <;> cases b <;> first | rfl | exact absurd h (by decide)
/-- Two single pegs with one key lie three apart. -/
theorem one_apart {W H : Int} {N z k k' : Nat} (ho : Ok W H N z) (hk : k ∈ bitsOf 49 z) (hk' : k' ∈ bitsOf 49 z) (h : keyB W H z (oneB W H z k) = keyB W H z (oneB W H z k')) :
    (k % W.toNat) % 3 = (k' % W.toNat) % 3 ∧ (k / W.toNat) % 3 = (k' / W.toNat) % 3 := by
  obtain ⟨e1, h1, b1⟩ := one_hole ho hk
  obtain ⟨e2, h2, b2⟩ := one_hole ho hk'
  rw [e1, e2, keyB_four (pos_of ho (part_pow b1)), keyB_four (pos_of ho (part_pow b2))] at h
  simp only [cB_one h1, cB_one h2] at h
  injection h with q0 h
  injection h with q1 h
  injection h with q2 h
  injection h with q3 h
  have q0 := toNat_inj q0
  have q1 := toNat_inj q1
  have q2 := toNat_inj q2
  have q3 := toNat_inj q3
  simp only [hit_lo _ _ (show 0 < 3 by decide), hit_lo _ _ (show 1 < 3 by decide), hit_lo _ _ (show 2 < 3 by decide)] at q0 q1
  rw [show (3 : Nat) = 3 + 0 from rfl, show (4 : Nat) = 3 + 1 from rfl, hit_hi _ _ (show 0 < 3 by decide), hit_hi _ _ (show 1 < 3 by decide), hit_hi _ _ (show 0 < 3 by decide), hit_hi _ _ (show 1 < 3 by decide)] at q2
  rw [show (4 : Nat) = 3 + 1 from rfl, show (5 : Nat) = 3 + 2 from rfl, hit_hi _ _ (show 1 < 3 by decide), hit_hi _ _ (show 2 < 3 by decide), hit_hi _ _ (show 1 < 3 by decide), hit_hi _ _ (show 2 < 3 by decide)] at q3
  have a1 := three_a ⟨r1 W.toNat k, r1_lt _ _⟩ ⟨r1 W.toNat k', r1_lt _ _⟩ q0 q1
  have a2 := three_a ⟨(k % W.toNat + 2 * (k / W.toNat)) % 3, Nat.mod_lt _ (by decide)⟩ ⟨(k' % W.toNat + 2 * (k' / W.toNat)) % 3, Nat.mod_lt _ (by decide)⟩ q2 q3
  simp only [r1] at a1
  simp only at a2
  generalize k % W.toNat = x at *
  generalize k / W.toNat = y at *
  generalize k' % W.toNat = x' at *
  generalize k' / W.toNat = y' at *
  omega
theorem final_mem {W H P : Int} {N z k : Nat} (ho : Ok W H N z) : k ∈ finalB W H z P ↔ k ∈ bitsOf 49 z ∧ sameB W H z P (oneB W H z k) = true := by
  unfold finalB holesL
  rw [if_pos ho.ok, show ((z : Nat) : Int).toNat = z from rfl]
  simp [List.mem_filter]
/-- The final holes lie three apart. -/
theorem final_apart {W H P : Int} {N z k k' : Nat} (ho : Ok W H N z) (hk : k ∈ finalB W H z P) (hk' : k' ∈ finalB W H z P) :
    k < 49 ∧ (k % W.toNat) % 3 = (k' % W.toNat) % 3 ∧ (k / W.toNat) % 3 = (k' / W.toNat) % 3 := by
  obtain ⟨h1, s1⟩ := (final_mem ho).1 hk
  obtain ⟨h2, s2⟩ := (final_mem ho).1 hk'
  exact ⟨(mem_bitsOf.1 h1).1, one_apart ho h1 h2 ((same_parts s1).2.2.symm.trans (same_parts s2).2.2)⟩
/-- A last peg stands in a final hole. -/
theorem final_last {W H P : Int} {N z q : Nat} (ho : Ok W H N z) (hp : posB W H z P = true) (hq : Part q z) (hk : keyB W H z q = keyB W H z P) (h1 : countB W H z q = 1) : 0 < (finalB W H z P).length := by
  have hpq := pos_of ho hq
  rw [count_pos hpq] at h1
  have h2 : (bitsOf 49 q).length = 1 := by rw [bitsOf_length]; omega
  obtain ⟨k, hx⟩ := List.length_eq_one_iff.1 h2
  have hm : k ∈ bitsOf 49 q := by rw [hx]; simp
  have hb := mem_bitsOf.1 hm
  have hlt : q < 2 ^ 49 := Nat.lt_of_le_of_lt hq.le ho.z49
  have hs := powSum_all hlt
  rw [hx] at hs
  have hq2 : q = 2 ^ k := by rw [← hs]; simp [powSum]
  have hz : k ∈ bitsOf 49 z := mem_bitsOf.2 ⟨hb.1, hq.bit hb.2⟩
  have e := (one_hole ho hz).1
  rw [← hq2] at e
  have hmem : k ∈ finalB W H z P := (final_mem ho).2 ⟨hz, by rw [e]; exact same_of hp hpq hk.symm⟩
  exact List.length_pos_of_mem hmem
end Go.Proofs.Ytlcoojgnokphmaa
