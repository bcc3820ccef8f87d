/- Steps on the grid and golden weights as mathematics: numbers of steps, powers by steps, sums over places. -/
import Derived.Test.YtllfgdcplbfdhaaGreatGolds
import Derived.Test.YtllfgdcplbfdhaaGreatPegsAll
import Derived.Test.YtllfgdcplbfdhaaGreatLinesAll
namespace Go.Proofs.YtllfgdcplbfdhaaGreat
open Go.RowKit
set_option linter.unusedVariables false
def absD (x y : Nat) : Nat := ((x : Int) - (y : Int)).natAbs
def stepsN (a j k : Nat) : Nat := absD (j % a) (k % a) + absD (j / a) (k / a)
def idxB (W H K : Int) : Bool := inB K 0 (W * H - 1)
def stepsB (W H Z J K : Int) : Int := if (okB W H Z && idxB W H J && idxB W H K) = true then (stepsN W.toNat J.toNat K.toNat : Nat) else -1
theorem absD_comm (x y : Nat) : absD x y = absD y x := by unfold absD; omega
theorem absD_le {x y m : Nat} (hx : x ≤ m) (hy : y ≤ m) : absD x y ≤ m := by unfold absD; omega
theorem div_at {a b k : Nat} (ha : 0 < a) (hk : k < a * b) : k / a < b := by rw [Nat.div_lt_iff_lt_mul ha, Nat.mul_comm]; exact hk
theorem stepsN_le {a b j k : Nat} (ha : 0 < a) (ha7 : a ≤ 7) (hb7 : b ≤ 7) (hj : j < a * b) (hk : k < a * b) : stepsN a j k ≤ 12 := by
  have h1 := Nat.mod_lt j ha
  have h2 := Nat.mod_lt k ha
  have h3 := div_at ha hj
  have h4 := div_at ha hk
  have h5 := absD_le (x := j % a) (y := k % a) (m := 6) (by omega) (by omega)
  have h6 := absD_le (x := j / a) (y := k / a) (m := 6) (by omega) (by omega)
  unfold stepsN
  omega
theorem steps_no1 {W H Z : Int} (J K : Int) (h : okB W H Z = false) : stepsB W H Z J K = -1 := by simp [stepsB, h]
theorem steps_no2 {W H Z J : Int} (K : Int) (h : idxB W H J = false) : stepsB W H Z J K = -1 := by simp [stepsB, h]
theorem steps_no3 {W H Z K : Int} (J : Int) (h : idxB W H K = false) : stepsB W H Z J K = -1 := by simp [stepsB, h]
theorem idx_nat {W H K : Int} {N : Nat} (hN : W * H = N) (h : idxB W H K = true) : ∃ k : Nat, K = k ∧ k < N := by
  unfold idxB at h
  rw [hN] at h
  simp only [inB, Bool.and_eq_true, decide_eq_true_eq] at h
  obtain ⟨k, rfl⟩ := Int.eq_ofNat_of_zero_le h.1
  exact ⟨k, rfl, by omega⟩
theorem idx_of {W H : Int} {N k : Nat} (hN : W * H = N) (h : k < N) : idxB W H k = true := by
  unfold idxB
  rw [hN]
  simp only [inB, Bool.and_eq_true, decide_eq_true_eq]
  omega
theorem steps_yes {a b N z j k : Nat} (ho : Ok (a : Int) (b : Int) N z) (hj : j < N) (hk : k < N) : stepsB a b z j k = (stepsN a j k : Nat) := by
  unfold stepsB
  rw [ho.ok, idx_of ho.wh hj, idx_of ho.wh hk]
  rfl
theorem okAB {W H Z : Int} (h : okB W H Z = true) : ∃ a b N z : Nat, W = a ∧ H = b ∧ Z = z ∧ Ok (a : Int) (b : Int) N z ∧ a * b = N ∧ 0 < a ∧ a ≤ 7 ∧ b ≤ 7 := by
  obtain ⟨a, b, N, z, rfl, rfl, rfl, ho⟩ := okNat h
  obtain ⟨h1, h2, h3, -, h5, -⟩ := ho.nat
  exact ⟨a, b, N, z, rfl, rfl, rfl, ho, h1, h2, h3, h5⟩
theorem steps_bnd (W H Z J K : Int) : -1 ≤ stepsB W H Z J K ∧ stepsB W H Z J K ≤ 12 := by
  cases h : okB W H Z
  · rw [steps_no1 J K h]; omega
  · cases h1 : idxB W H J
    · rw [steps_no2 K h1]; omega
    · cases h2 : idxB W H K
      · rw [steps_no3 J h2]; omega
      · obtain ⟨a, b, N, z, rfl, rfl, rfl, ho, hN, ha, ha7, hb7⟩ := okAB h
        obtain ⟨j, rfl, hj⟩ := idx_nat ho.wh h1
        obtain ⟨k, rfl, hk⟩ := idx_nat ho.wh h2
        rw [steps_yes ho hj hk]
        have := stepsN_le ha ha7 hb7 (by rw [hN]; exact hj) (by rw [hN]; exact hk)
        omega
/-- The golden weight of a place. -/
def gwB (W H Z T K : Int) : Int × Int := powG (stepsB W H Z T K)
/-- The two parts lie within a bound. -/
def Gin (m : Int) (g : Int × Int) : Prop := (-m ≤ g.1 ∧ g.1 ≤ m) ∧ -m ≤ g.2 ∧ g.2 ≤ m
theorem pw12 : ∀ k : Fin 13, (-144 ≤ (pw k.val).1 ∧ (pw k.val).1 ≤ 144) ∧ -144 ≤ (pw k.val).2 ∧ (pw k.val).2 ≤ 144 := by decide +kernel
theorem pow12 {n : Int} (h : n ≤ 12) : Gin 144 (powG n) := by
  unfold powG
  split
  · next h0 =>
    obtain ⟨m, rfl⟩ := Int.eq_ofNat_of_zero_le h0.1
    exact pw12 ⟨m, by omega⟩
  · exact ⟨by decide, by decide⟩
theorem gw_in (W H Z T K : Int) : Gin 144 (gwB W H Z T K) := pow12 (steps_bnd W H Z T K).2
theorem Gin.gold {m : Int} {g : Int × Int} (h : Gin m g) (hm : m ≤ 1000000) : goldB g.1 g.2 = true := by
  obtain ⟨⟨h1, h2⟩, h3, h4⟩ := h
  exact gold_of ⟨⟨by omega, by omega⟩, by omega, by omega⟩
/-- The sum over a list of places. -/
def gsL (f : Nat → Int × Int) (ks : List Nat) : Int × Int := ((ks.map fun k => (f k).1).sum, (ks.map fun k => (f k).2).sum)
theorem gsL_nil (f : Nat → Int × Int) : gsL f [] = (0, 0) := rfl
theorem gsL_snoc (f : Nat → Int × Int) (ks : List Nat) (k : Nat) : gsL f (ks ++ [k]) = ((gsL f ks).1 + (f k).1, (gsL f ks).2 + (f k).2) := by simp [gsL]
theorem gsL_cons (f : Nat → Int × Int) (ks : List Nat) (k : Nat) : gsL f (k :: ks) = ((f k).1 + (gsL f ks).1, (f k).2 + (gsL f ks).2) := by simp [gsL]
theorem gsL_in {f : Nat → Int × Int} (hf : ∀ k, Gin 144 (f k)) : ∀ ks : List Nat, Gin (144 * (ks.length : Int)) (gsL f ks)
  | [] => by simp [Gin, gsL]
  | k :: ks => by
    obtain ⟨⟨h1, h2⟩, h3, h4⟩ := gsL_in hf ks
    obtain ⟨⟨k1, k2⟩, k3, k4⟩ := hf k
    rw [gsL_cons, List.length_cons]
    exact ⟨⟨by simp only; omega, by simp only; omega⟩, by simp only; omega, by simp only; omega⟩
theorem gsL_gold {f : Nat → Int × Int} (hf : ∀ k, Gin 144 (f k)) {ks : List Nat} (h : ks.length ≤ 49) : goldB (gsL f ks).1 (gsL f ks).2 = true := (gsL_in hf ks).gold (by omega)
def gsumB (W H Z T P : Int) : Int × Int := if (posB W H Z P && holeB W H Z T) = true then gsL (fun k => gwB W H Z T k) (bitsOf 49 P.toNat) else (0, 0)
def hopeB (W H Z P T : Int) : Bool := posB W H Z P && holeB W H Z T && decide (0 ≤ cmpG (gsumB W H Z T P).1 (gsumB W H Z T P).2 1 0)
def glossB (W H Z T : Int) (l : Ln) : Int × Int :=
  if ((lnsOf W H Z).contains l && holeB W H Z T) = true then ((gwB W H Z T l.1).1 + (gwB W H Z T l.2.1).1 - (gwB W H Z T l.2.2).1, (gwB W H Z T l.1).2 + (gwB W H Z T l.2.1).2 - (gwB W H Z T l.2.2).2) else (0, 0)
theorem gsum_no {W H Z T P : Int} (h : (posB W H Z P && holeB W H Z T) = false) : gsumB W H Z T P = (0, 0) := by unfold gsumB; rw [h]; rfl
theorem gsum_yes {W H Z T P : Int} (h1 : posB W H Z P = true) (h2 : holeB W H Z T = true) : gsumB W H Z T P = gsL (fun k => gwB W H Z T k) (bitsOf 49 P.toNat) := by unfold gsumB; rw [h1, h2]; rfl
theorem gsum_gold (W H Z T P : Int) : goldB (gsumB W H Z T P).1 (gsumB W H Z T P).2 = true := by
  unfold gsumB
  split
  · exact gsL_gold (fun k => gw_in W H Z T k) (bitsOf_le 49 _)
  · decide
theorem hope_no {W H Z P T : Int} (h : (posB W H Z P && holeB W H Z T) = false) : hopeB W H Z P T = false ∧ cmpG (gsumB W H Z T P).1 (gsumB W H Z T P).2 1 0 = -1 := by
  refine ⟨by unfold hopeB; rw [h]; rfl, ?_⟩
  rw [gsum_no h]
  decide
theorem hope_yes {W H Z P T : Int} (h1 : posB W H Z P = true) (h2 : holeB W H Z T = true) : hopeB W H Z P T = decide (0 ≤ cmpG (gsumB W H Z T P).1 (gsumB W H Z T P).2 1 0) := by unfold hopeB; rw [h1, h2]; rfl
theorem hope_cmp (W H Z P T : Int) : hopeB W H Z P T = decide (0 ≤ cmpG (gsumB W H Z T P).1 (gsumB W H Z T P).2 1 0) := by
  cases h : posB W H Z P && holeB W H Z T
  · rw [(hope_no h).1, (hope_no h).2]; rfl
  · rw [Bool.and_eq_true] at h; exact hope_yes h.1 h.2
theorem gloss_no {W H Z T : Int} {l : Ln} (h : ((lnsOf W H Z).contains l && holeB W H Z T) = false) : glossB W H Z T l = (0, 0) := by unfold glossB; rw [h]; rfl
theorem gloss_yes {W H Z T : Int} {l : Ln} (h1 : (lnsOf W H Z).contains l = true) (h2 : holeB W H Z T = true) : glossB W H Z T l = ((gwB W H Z T l.1).1 + (gwB W H Z T l.2.1).1 - (gwB W H Z T l.2.2).1, (gwB W H Z T l.1).2 + (gwB W H Z T l.2.1).2 - (gwB W H Z T l.2.2).2) := by unfold glossB; rw [h1, h2]; rfl
/-- The pegs of a position among the holes of its board. -/
theorem bits_filter {N z p : Nat} (h : Part p z) : (bitsOf N z).filter (bit p) = bitsOf N p := by
  unfold bitsOf
  rw [List.filter_filter]
  congr 1
  funext k
  cases hb : bit p k
  · simp
  · simp [h.bit hb]
end Go.Proofs.YtllfgdcplbfdhaaGreat
