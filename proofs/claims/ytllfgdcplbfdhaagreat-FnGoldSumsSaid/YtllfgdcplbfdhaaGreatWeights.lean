/- Weights as lists of integers: when a list is one of weights, its sum over the bits of a number, what a jump on a line loses, the first broken line, the sum of two lists. Of no program. Slices of ints that came in as arguments, or lie anywhere in memory: what can be read of them; toIntS of the exact laws. Of at most 1048576 ints. Whether lists are weights: areInWeightRange, areWeights, WeightsOk of the program and WeightsOk of the model. Of lists of at most 1048576 ints. What a jump on a line loses: lossOn and LossOf of the program, LossOf of the model. Of lists of at most 1048576 ints. The first broken line, and whether weights are falling: BrokenLine and IsFalling of both. Of lists of at most 1048576 ints. Sums of weights: addLists, AddWeights and SumOf of the program, AddWeights and SumOf of the model. Of lists of at most 1048576 ints. AddWeights of the model, SumOf of both. Of lists of at most 1048576 ints. SumOf of both. Of lists of at most 1048576 ints. -/
import Derived.Test.YtllfgdcplbfdhaaGreatJumps
import Derived.Test.YtllfgdcplbfdhaaGreatPegsAll
import Derived.Test.YtllfgdcplbfdhaaGreatLinesAll
import Derived.Test.YtllfgdcplbfdhaaGreatBoards
import Derived.OwnWalk
namespace Go.Proofs.YtllfgdcplbfdhaaGreat
open Go.RowKit
set_option linter.unusedVariables false
set_option linter.unusedSimpArgs false
/-- A number that can be a weight. -/
def inW (x : Int) : Bool := inB x (-1000) 1000
theorem inW_iff {x : Int} : inW x = true ↔ -1000 ≤ x ∧ x ≤ 1000 := by simp [inW, inB]
theorem inW_no {x : Int} (h : inW x = false) : x < -1000 ∨ 1000 < x := by
  have : ¬ (-1000 ≤ x ∧ x ≤ 1000) := fun hh => by rw [inW_iff.2 hh] at h; cases h
  omega
/-- A list of weights of a grid of n places. -/
def wtsB (n : Int) (xs : List Int) : Bool := decide ((xs.length : Int) = n) && xs.all inW
def wOkB (W H Z : Int) (xs : List Int) : Bool := okB W H Z && wtsB (W * H) xs
/-- The weight of an index. -/
def wAt (xs : List Int) (k : Nat) : Int := xs.getD k 0
def lossL (xs : List Int) (l : Ln) : Int := wAt xs l.1.toNat + wAt xs l.2.1.toNat - wAt xs l.2.2.toNat
def badL (xs : List Int) (l : Ln) : Bool := decide (lossL xs l < 0)
def brkL (W H Z : Int) (xs : List Int) : Option Ln := if wOkB W H Z xs then (lnsOf W H Z).find? (badL xs) else none
def fallB (W H Z : Int) (xs : List Int) : Bool := wOkB W H Z xs && (brkL W H Z xs).isNone
def sumTo (xs : List Int) (p : Nat) : Nat → Int
  | 0 => 0
  | k + 1 => sumTo xs p k + (if bit p k then wAt xs k else 0)
def sumB (W H Z : Int) (xs : List Int) (P : Int) : Int := if wOkB W H Z xs && posB W H Z P then sumTo xs P.toNat xs.length else 0
def addL (xs ys : List Int) : List Int := List.zipWith (· + ·) xs ys
def addB (W H Z : Int) (xs ys : List Int) : List Int × Bool := if wOkB W H Z xs && wOkB W H Z ys && wOkB W H Z (addL xs ys) then (addL xs ys, true) else ([], false)
def lossB (W H Z : Int) (xs : List Int) (l : Ln) : Int := if wOkB W H Z xs && (lnsOf W H Z).contains l then lossL xs l else 0
theorem wOkB_no {W H Z : Int} {xs : List Int} (h : okB W H Z = false) : wOkB W H Z xs = false := by simp [wOkB, h]
/-- What is told of weights. -/
theorem wOk_yes {W H Z : Int} {xs : List Int} (h : wOkB W H Z xs = true) : okB W H Z = true ∧ (xs.length : Int) = W * H ∧ xs.all inW = true := by
  simp only [wOkB, wtsB, Bool.and_eq_true, decide_eq_true_eq] at h
  exact h
theorem wAt_get {xs : List Int} {k : Nat} {x : Int} (h : xs[k]? = some x) : wAt xs k = x := by simp [wAt, List.getD, h]
theorem get_wAt {xs : List Int} {k : Nat} (h : k < xs.length) : xs[k]? = some (wAt xs k) := by simp [wAt, List.getD, h]
theorem all_get {xs : List Int} (h : xs.all inW = true) {k : Nat} {x : Int} (hk : xs[k]? = some x) : -1000 ≤ x ∧ x ≤ 1000 := by
  rw [List.all_eq_true] at h
  exact inW_iff.1 (h x (List.mem_of_getElem? hk))
theorem all_wAt {xs : List Int} (h : xs.all inW = true) (k : Nat) : -1000 ≤ wAt xs k ∧ wAt xs k ≤ 1000 := by
  rcases Nat.lt_or_ge k xs.length with hk | hk
  · exact all_get h (get_wAt hk)
  · simp [wAt, List.getD, List.getElem?_eq_none hk]
theorem all_of {xs : List Int} (h : ∀ (k : Nat) x, xs[k]? = some x → inW x = true) : xs.all inW = true := by
  rw [List.all_eq_true]
  intro x hx
  obtain ⟨k, hk⟩ := List.mem_iff_getElem?.1 hx
  exact h k x hk
theorem all_not {xs : List Int} {k : Nat} {x : Int} (hk : xs[k]? = some x) (h : inW x = false) : xs.all inW = false := by
  rw [← Bool.not_eq_true]
  intro hh
  rw [List.all_eq_true] at hh
  rw [hh x (List.mem_of_getElem? hk)] at h
  cases h
theorem sumTo_le {xs : List Int} (h : xs.all inW = true) (p : Nat) : ∀ k : Nat, -1000 * (k : Int) ≤ sumTo xs p k ∧ sumTo xs p k ≤ 1000 * (k : Int)
  | 0 => by simp [sumTo]
  | k + 1 => by
    have h1 := sumTo_le h p k
    have h2 := all_wAt h k
    have e : sumTo xs p (k + 1) = sumTo xs p k + (if bit p k then wAt xs k else 0) := rfl
    rw [e]
    split <;> omega
theorem loss_le {xs : List Int} (h : xs.all inW = true) (l : Ln) : -3000 ≤ lossL xs l ∧ lossL xs l ≤ 3000 := by
  have h1 := all_wAt h l.1.toNat
  have h2 := all_wAt h l.2.1.toNat
  have h3 := all_wAt h l.2.2.toNat
  unfold lossL
  omega
/-- The sum over a list of indices. -/
def sumOn (xs : List Int) (ks : List Nat) : Int := (ks.map (wAt xs)).sum
theorem sumOn_snoc (xs : List Int) (ks : List Nat) (k : Nat) : sumOn xs (ks ++ [k]) = sumOn xs ks + wAt xs k := by simp [sumOn]
theorem sumOn_bits (xs : List Int) (p : Nat) : ∀ n, sumOn xs (bitsOf n p) = sumTo xs p n
  | 0 => rfl
  | n + 1 => by
    have e : sumTo xs p (n + 1) = sumTo xs p n + (if bit p n then wAt xs n else 0) := rfl
    rw [e]
    cases h : bit p n
    · rw [bitsOf_no h, sumOn_bits xs p n]; simp
    · rw [bitsOf_yes h, sumOn_snoc, sumOn_bits xs p n]; simp
theorem sumOn_le {xs : List Int} (h : xs.all inW = true) : ∀ ks : List Nat, -1000 * (ks.length : Int) ≤ sumOn xs ks ∧ sumOn xs ks ≤ 1000 * (ks.length : Int)
  | [] => by simp [sumOn]
  | k :: ks => by
    have h1 := sumOn_le h ks
    have h2 := all_wAt h k
    have e : sumOn xs (k :: ks) = wAt xs k + sumOn xs ks := by simp [sumOn]
    rw [e, List.length_cons]
    omega
/-- A line of a board in the list of weights. -/
theorem line_wts {a b N z : Nat} {xs : List Int} (h : Ok (a : Int) (b : Int) N z) (hn : (xs.length : Int) = (a : Int) * (b : Int)) {l : Ln} (hl : l ∈ linesOf a b z (bitsOf N z)) :
    ∃ f o t : Nat, l = ((f : Int), (o : Int), (t : Int)) ∧ f < xs.length ∧ o < xs.length ∧ t < xs.length ∧ bit z f = true ∧ bit z o = true ∧ bit z t = true ∧ f ≠ o ∧ f ≠ t ∧ o ≠ t := by
  obtain ⟨hN, ha, -⟩ := h.nat
  obtain ⟨f, o, t, L⟩ := mem_at hN ha hl
  have e : xs.length = a * b := by
    have : ((xs.length : Nat) : Int) = ((a * b : Nat) : Int) := by rw [hn]; simp
    exact Int.ofNat.inj this
  exact ⟨f, o, t, L.eq, by rw [e]; exact L.fN, by rw [e]; exact L.oN, by rw [e]; exact L.tN, L.bf, L.bo, L.bt, L.fo, L.ft, L.ot⟩
/-- Lists of n numbers of magnitude at most c. -/
def Bnd (n : Nat) (c : Int) (l : List Int) : Prop := l.length = n ∧ ∀ (k : Nat) x, l[k]? = some x → -c ≤ x ∧ x ≤ c
theorem wts_bnd {N : Nat} {xs : List Int} (h : wtsB N xs = true) : Bnd N 1000 xs := by
  simp only [wtsB, Bool.and_eq_true, decide_eq_true_eq] at h
  exact ⟨by omega, fun k x hk => all_get h.2 hk⟩
theorem addL_get {a b : List Int} {k : Nat} {x : Int} (h : (addL a b)[k]? = some x) : ∃ u v, a[k]? = some u ∧ b[k]? = some v ∧ x = u + v := by
  unfold addL at h
  rw [List.getElem?_zipWith] at h
  cases hu : a[k]? with
  | none => rw [hu] at h; cases h
  | some u => cases hv : b[k]? with
    | none => rw [hu, hv] at h; cases h
    | some v => rw [hu, hv] at h; exact ⟨u, v, rfl, rfl, (Option.some.inj h).symm⟩
theorem get_addL {a b : List Int} {k : Nat} {u v : Int} (ha : a[k]? = some u) (hb : b[k]? = some v) : (addL a b)[k]? = some (u + v) := by
  unfold addL
  rw [List.getElem?_zipWith, ha, hb]
theorem Bnd.add {n : Nat} {c d : Int} {a b : List Int} (ha : Bnd n c a) (hb : Bnd n d b) : Bnd n (c + d) (addL a b) := by
  refine ⟨by rw [addL, List.length_zipWith, ha.1, hb.1]; omega, fun k x hk => ?_⟩
  obtain ⟨u, v, h1, h2, rfl⟩ := addL_get hk
  have := ha.2 k u h1
  have := hb.2 k v h2
  omega
theorem Bnd.zero (n : Nat) : Bnd n 0 (List.replicate n 0) := by
  refine ⟨by simp, fun k x hk => ?_⟩
  rw [List.getElem?_replicate] at hk
  split at hk
  · cases hk; omega
  · cases hk
theorem addL_zero {n : Nat} {b : List Int} (h : b.length = n) : addL (List.replicate n 0) b = b := by
  apply List.ext_getElem?
  intro k
  unfold addL
  rw [List.getElem?_zipWith, List.getElem?_replicate]
  by_cases hk : k < n
  · rw [if_pos hk]
    cases hb : b[k]? with
    | none => rfl
    | some v => simp
  · rw [if_neg hk, List.getElem?_eq_none (show b.length ≤ k by omega)]
/-- A list whose first j numbers are those of another. -/
theorem put_int (ys l : List Int) {j n : Nat} {x : Int} (hl : l.length = n) (ha : ys.length = n) (hj : ys[j]? = some x) : (iv (ys.take j ++ l.drop j)).set j (.int .i64 x) = iv (ys.take (j + 1) ++ l.drop (j + 1)) := by
  have hjn : j < n := by rw [← ha]; exact (List.getElem?_eq_some_iff.1 hj).1
  rw [take_one hj, List.drop_eq_getElem_cons (show j < l.length by omega)]
  have hL : (ys.take j).length = j := by rw [List.length_take]; omega
  generalize ys.take j = L at *
  generalize l.drop (j + 1) = r
  subst hL
  simp [iv, List.set_append_right]
end Go.Proofs.YtllfgdcplbfdhaaGreat

namespace Go.Proofs.YtllfgdcplbfdhaaGreat
open Go.RowKit
set_option linter.unusedVariables false
set_option linter.unusedSimpArgs false
/-- A slice of ints that can be read: the ints that it holds. -/
def IntsAt (w : World) (a : Option Addr) (len : Nat) (xs : List Int) : Prop :=
  xs.length = len ∧ (len = 0 ∨ ∃ b off, a = some ⟨b, off, none⟩ ∧ b < w.heap.size ∧ ∀ (k : Nat) x, xs[k]? = some x → w.cell? ⟨b, off + k, none⟩ = some (.int .i64 x))
theorem IntsAt.later {w w' : World} {a : Option Addr} {len : Nat} {xs : List Int} (h : IntsAt w a len xs) (hb : Below w.heap.size w w') : IntsAt w' a len xs := by
  refine ⟨h.1, h.2.imp id ?_⟩
  rintro ⟨b, off, rfl, hlt, hc⟩
  exact ⟨b, off, rfl, Nat.lt_of_lt_of_le hlt hb.size, fun k x hk => (hb.cell hlt).trans (hc k x hk)⟩
/-- One of its cells. -/
theorem IntsAt.cell {w : World} {a : Option Addr} {len : Nat} {xs : List Int} (h : IntsAt w a len xs) {k : Nat} (hk : k < len) : ∃ b off, a = some ⟨b, off, none⟩ ∧ b < w.heap.size ∧ ∀ (k : Nat) x, xs[k]? = some x → w.cell? ⟨b, off + k, none⟩ = some (.int .i64 x) := by
  rcases h.2 with h0 | h0
  · omega
  · exact h0
theorem ints_own {w : World} {B n c : Nat} {T : TypeId} {a : Option Addr} {xs : List Int} (h : w.ownsRow B T 1 (.slice a n c) n (iv xs)) (hn : xs.length = n) : IntsAt w a n xs := by
  refine ⟨hn, ?_⟩
  rcases h.2 with ⟨h1, h2⟩ | ⟨g, cap, cur, h1, hb, hg, -⟩
  · exact .inl h2
  · right
    injection h1 with h1 h2 h3
    subst h1 h3
    refine ⟨g, 0, rfl, (h.lt g rfl).2, fun k x hk => ?_⟩
    have hkn : k < n := by rw [← hn]; exact (List.getElem?_eq_some_iff.1 hk).1
    rw [Nat.zero_add]
    exact own_cell h k hkn _ (by simp [iv, hk])
theorem int_form {w : World} {b n : Nat} {e : TypeId} {v : Value} {xs : List Value} (h : w.ownsRow b e 1 v n xs) : ∃ a c, v = .slice a n c := by
  rcases Go.Joins.ownsRow_forms h with ⟨rfl, rfl⟩ | ⟨g, cap, rfl⟩
  · exact ⟨_, _, rfl⟩
  · exact ⟨_, _, rfl⟩
/-- What the frame of a law tells. -/
theorem ints_row {w : World} {a : Option Addr} {len cap : Nat} {zs : List Int} (h : (a = none ∧ len = 0 ∧ cap = 0 ∧ zs = []) ∨ ∃ x, a = some x ∧ len ≤ cap ∧ cap ≤ maxLen ∧ zs.length = cap ∧ (∀ i, i < zs.length → w.cell? (x.add i) = some (.int .i64 (zs.getD i 0))) ∧ ∀ n ∈ zs, (Lit.int .i64 n).wf = true) :
    IntsAt w a len (zs.take len) ∧ len ≤ maxLen := by
  rcases h with ⟨rfl, rfl, rfl, rfl⟩ | ⟨x, rfl, hl, hm, hz, hc, -⟩
  · exact ⟨⟨rfl, .inl rfl⟩, Nat.zero_le _⟩
  · refine ⟨⟨by rw [List.length_take, hz]; omega, ?_⟩, Nat.le_trans hl hm⟩
    by_cases h0 : len = 0
    · exact .inl h0
    · right
      obtain ⟨b, off, spot⟩ := x
      have hc0 := hc 0 (by omega)
      have hspot : spot = none := by simpa [Addr.add] using World.cell?_spot hc0
      subst hspot
      refine ⟨b, off, rfl, World.block_lt_of_cell? w _ (by simpa [Addr.add] using hc0), fun k y hk => ?_⟩
      have hkl : k < len := by have := (List.getElem?_eq_some_iff.1 hk).1; rw [List.length_take] at this; omega
      have hck := hc k (by omega)
      have e : (⟨b, off, none⟩ : Addr).add k = ⟨b, off + k, none⟩ := by unfold Addr.add; split <;> simp_all
      rw [e] at hck
      rw [List.getElem?_take, if_pos hkl] at hk
      rw [hck, List.getD, hk]; rfl
theorem iput (l : List Value) (ys : List Int) (x : Int) {k n : Nat} (hy : ys.length = k) (hl : l.length = n) (hk : k < n) :
    (iv ys ++ l.drop k).set k (.int .i64 x) = iv (ys ++ [x]) ++ l.drop (k + 1) := by
  rw [List.drop_eq_getElem_cons (show k < l.length by omega), iv_snoc]
  have hL : (iv ys).length = k := by rw [iv_len, hy]
  generalize iv ys = L at *
  generalize l.drop (k + 1) = r
  subst hL
  simp [List.set_append_right]
end Go.Proofs.YtllfgdcplbfdhaaGreat

namespace Go.Proofs.YtllfgdcplbfdhaaGreat
open Go.RowKit
set_option linter.unusedVariables false
set_option linter.unusedSimpArgs false
set_option maxHeartbeats 1000000 in
set_option maxRecDepth 100000 in
theorem implInRange {a : Option Addr} {n c : Nat} {xs : List Int} (w : World) (hx : n ≤ 1048576) (h : IntsAt w a n xs) :
    Calls Tryz.prog 134 #[.slice a n c] w (QB (xs.all inW) w) := by
  have HN := Lib.hid h.1
  have HA := Lib.hid h
  have HY : Hid ((∀ (k : Nat) x, xs[k]? = some x → inW x = true) → xs.all inW = true) := fun hh => all_of hh
  have HF : Hid (∀ (k : Nat) x, xs[k]? = some x → inW x = false → xs.all inW = false) := fun k x hk hh => all_not hk hh
  generalize xs.all inW = R at *
  clear h
  go_enter Tryz.func134, Tryz.ntmps134
  go_wp2_with fail
  go_loopw [7] (fun i wr => ∃ k : Nat, k ≤ n ∧ i = .int .i64 k ∧ wr = w ∧ Hid (∀ (j : Nat) x, j < k → xs[j]? = some x → inW x = true)) (fun i _ => n - (intOf i).toNat)
  case atStart => exact ⟨0, Nat.zero_le _, rfl, rfl, fun j x hj => absurd hj (Nat.not_lt_zero _)⟩
  case round =>
    obtain ⟨k, hk, rfl, rfl, HD⟩ := hrel
    by_cases hlt : k < n
    · have h0 : (0 : Int) ≤ (k : Int) := by omega
      have h1 : (k : Int) < (n : Int) := by omega
      obtain ⟨x, hxk⟩ : ∃ l, xs[k]? = some l := ⟨_, List.getElem?_eq_getElem (by rw [HN.out]; exact hlt)⟩
      obtain ⟨b, off, rfl, hb, hc⟩ := HA.out.cell hlt
      have c0 := hc k x hxk
      clear hc
      cases hw : inW x
      · have HE := Lib.hid (HF.out k x hxk hw)
        have hno := inW_no hw
        by_cases h2 : x < -1000
        · clear hxk hw hno
          go_wp2_with fail
          go_ret
          exact QB.of HE.out.symm (Below.refl _ _)
        · have h3 : 1000 < x := by omega
          clear hxk hw hno
          go_wp2_with fail
          go_ret
          exact QB.of HE.out.symm (Below.refl _ _)
      · have HD' : Hid (∀ (j : Nat) x, j < k + 1 → xs[j]? = some x → inW x = true) := fun j y hj hy => by
          by_cases e : j = k
          · subst e; rw [hxk] at hy; cases hy; exact hw
          · exact HD.out j y (by omega) hy
        obtain ⟨h4, h5⟩ := inW_iff.1 hw
        have h2 : ¬ x < -1000 := by omega
        have h3 : ¬ 1000 < x := by omega
        clear hxk hw h4 h5 HD
        go_wp2_with fail
        go_roundw
        case rel => exact ⟨k + 1, by omega, by go_num, trivial, HD'⟩
        case measure => simp [intOf]; omega
    · obtain rfl : k = n := by omega
      have HE : Hid (R = true) := HY.out fun j x hj => HD.out j x (by rw [← HN.out]; exact (List.getElem?_eq_some_iff.1 hj).1) hj
      clear HD
      go_wp2_with fail
      go_ret
      exact QB.of HE.out.symm (Below.refl _ _)
/-- A list that was handed over among others: its slice and what it holds. -/
abbrev LArg := Option Addr × Nat × Nat × List Int
/-- A slice of slices of ints. -/
def ListsAt (w : World) (g m : Nat) (vs : List LArg) : Prop :=
  vs.length = m ∧ g < w.heap.size ∧ ∀ (j : Nat) v, vs[j]? = some v → w.cell? ⟨g, j, none⟩ = some (.slice v.1 v.2.1 v.2.2.1) ∧ IntsAt w v.1 v.2.1 v.2.2.2 ∧ v.2.1 ≤ 1048576
theorem ListsAt.later {w w' : World} {g m : Nat} {vs : List LArg} (h : ListsAt w g m vs) (hb : Below w.heap.size w w') : ListsAt w' g m vs := by
  refine ⟨h.1, Nat.lt_of_lt_of_le h.2.1 hb.size, fun j v hj => ?_⟩
  obtain ⟨h1, h2, h3⟩ := h.2.2 j v hj
  exact ⟨(hb.cell h.2.1).trans h1, h2.later hb, h3⟩
theorem lists_one {w : World} {a : Option Addr} {n c : Nat} {xs : List Int} {T : TypeId} (h : IntsAt w a n xs) (hx : n ≤ 1048576) : ListsAt (w.alloc (.cells #[.slice a n c] T)) w.heap.size 1 [(a, n, c, xs)] := by
  have hb : Below w.heap.size w (w.alloc (.cells #[.slice a n c] T)) := (Below.refl _ _).alloc (Nat.le_refl _) _
  refine ⟨rfl, by simp, fun j v hj => ?_⟩
  have hlt := (List.getElem?_eq_some_iff.1 hj).1
  simp at hlt
  subst hlt
  simp at hj
  subst hj
  refine ⟨?_, h.later hb, hx⟩
  rw [cell_of_row _ _ _ _ _ _ (heap_alloc_new w _)]
  rfl
theorem lists_two {w : World} {a a' : Option Addr} {n c n' c' : Nat} {xs ys : List Int} {T : TypeId} (h : IntsAt w a n xs) (hx : n ≤ 1048576) (h' : IntsAt w a' n' ys) (hy : n' ≤ 1048576) :
    ListsAt (w.alloc (.cells #[.slice a n c, .slice a' n' c'] T)) w.heap.size 2 [(a, n, c, xs), (a', n', c', ys)] := by
  have hb : Below w.heap.size w (w.alloc (.cells #[.slice a n c, .slice a' n' c'] T)) := (Below.refl _ _).alloc (Nat.le_refl _) _
  refine ⟨rfl, by simp, fun j v hj => ?_⟩
  have hlt := (List.getElem?_eq_some_iff.1 hj).1
  simp at hlt
  obtain rfl | rfl : j = 0 ∨ j = 1 := by omega
  · simp at hj
    subst hj
    refine ⟨?_, h.later hb, hx⟩
    rw [cell_of_row _ _ _ _ _ _ (heap_alloc_new w _)]
    rfl
  · simp at hj
    subst hj
    refine ⟨?_, h'.later hb, hy⟩
    rw [cell_of_row _ _ _ _ _ _ (heap_alloc_new w _)]
    rfl
def argsB (n : Int) (vs : List LArg) : Bool := vs.all fun v => wtsB n v.2.2.2
theorem args_all {n : Int} {vs : List LArg} (h : ∀ (k : Nat) v, vs[k]? = some v → wtsB n v.2.2.2 = true) : argsB n vs = true := by
  unfold argsB
  rw [List.all_eq_true]
  intro x hx
  obtain ⟨k, hk⟩ := List.mem_iff_getElem?.1 hx
  exact h k x hk
theorem args_not {n : Int} {vs : List LArg} {k : Nat} {v : LArg} (hk : vs[k]? = some v) (h : wtsB n v.2.2.2 = false) : argsB n vs = false := by
  rw [← Bool.not_eq_true]
  intro hh
  unfold argsB at hh
  rw [List.all_eq_true] at hh
  rw [hh v (List.mem_of_getElem? hk)] at h
  cases h
set_option maxHeartbeats 1000000 in
set_option maxRecDepth 100000 in
theorem implAreWeights (W H Z : Int) {g m c : Nat} {vs : List LArg} (w : World) (hm : m ≤ 1000) (h : ListsAt w g m vs) :
    Calls Tryz.prog 115 #[.agg #[.int .i64 W, .int .i64 H, .int .i64 Z], .slice (some ⟨g, 0, none⟩) m c] w (QB (okB W H Z && argsB (W * H) vs) w) := by
  cases hok : okB W H Z
  · have C1 := Lib.hid (implOk_no hok)
    clear hok h
    go_enter Tryz.func115, Tryz.ntmps115
    go_wp2_with fail
    have B0 := Lib.hid (box_new W H Z w)
    generalize w.alloc (.cells #[.int .i64 W, .int .i64 H, .int .i64 Z] 25) = W1 at *
    obtain ⟨c0, c1, c2, hlt, hb1⟩ := B0.out
    go_wp2_with fail
    refine (C1.out _).mono ?_
    rintro e w1 ⟨rfl, hb⟩
    have B1 := Lib.hid (B0.out.later hb)
    clear c0 c1 c2 hlt hb1 hb B0
    go_wp2_with fail
    go_ret
    exact ⟨rfl, B1.out.2.2.2.2⟩
  · obtain ⟨N, z, rfl, ho⟩ := ok_of hok
    have hN := ho.wh
    have C1 := Lib.hid (implOk_yes ho)
    have C2 := Lib.hid (fun w => implSize W H z w N ho.wh ho.n49)
    have h49 := ho.n49
    rw [show (true && argsB (W * H) vs) = argsB (W * H) vs from rfl, hN]
    have HY : Hid ((∀ (k : Nat) v, vs[k]? = some v → wtsB N v.2.2.2 = true) → argsB N vs = true) := fun hh => args_all hh
    have HF : Hid (∀ (k : Nat) v, vs[k]? = some v → wtsB N v.2.2.2 = false → argsB N vs = false) := fun k x hk hh => args_not hk hh
    have HV := Lib.hid h.1
    have HA := Lib.hid (h.later ((Below.refl _ _).alloc (Nat.le_refl _) (.cells #[.int .i64 W, .int .i64 H, .int .i64 (z : Int)] 25)))
    generalize argsB N vs = R at *
    clear hok h ho hN
    go_enter Tryz.func115, Tryz.ntmps115
    go_wp2_with fail
    have B0 := Lib.hid (box_new W H z w)
    generalize w.alloc (.cells #[.int .i64 W, .int .i64 H, .int .i64 (z : Int)] 25) = W1 at *
    obtain ⟨c0, c1, c2, hlt, hb1⟩ := B0.out
    go_wp2_with fail
    refine (C1.out _).mono ?_
    rintro e w1 ⟨rfl, hb⟩
    have B1 := Lib.hid (B0.out.later hb)
    have A1 := Lib.hid (HA.out.later hb)
    clear c0 c1 c2 hlt hb1 hb B0 HA C1
    go_wp2_with fail
    go_loopw [12] (fun i wr => ∃ k : Nat, k ≤ m ∧ i = .int .i64 k ∧ Hid (ListsAt wr g m vs) ∧ Hid (Box w.heap.size W H z w wr) ∧ Hid (∀ (j : Nat) v, j < k → vs[j]? = some v → wtsB N v.2.2.2 = true)) (fun i _ => m - (intOf i).toNat)
    case atStart => exact ⟨0, Nat.zero_le _, rfl, A1, B1, fun j x hj => absurd hj (Nat.not_lt_zero _)⟩
    case round =>
      clear A1 B1
      obtain ⟨k, hk, rfl, HA, HB, HD⟩ := hrel
      obtain ⟨c0, c1, c2, hlt, hb1⟩ := HB.out
      by_cases hlk : k < m
      · have h0 : (0 : Int) ≤ (k : Int) := by omega
        have h1 : (k : Int) < (m : Int) := by omega
        obtain ⟨⟨a, n, cp, xs⟩, hxk⟩ : ∃ l, vs[k]? = some l := ⟨_, List.getElem?_eq_getElem (by rw [HV.out]; exact hlk)⟩
        obtain ⟨d0, hI, hn⟩ := HA.out.2.2 k _ hxk
        simp only at d0 hI hn
        have HI := Lib.hid hI
        have hlen := hI.1
        have HF' := HF.out k _ hxk
        simp only [wtsB, hlen] at HF'
        by_cases hnN : n = N
        · have e1 : ¬ ((n : Int) ≠ (N : Int)) := by omega
          have e2 : (n : Int) = (N : Int) := by omega
          have C3 := Lib.hid (fun w (hi : IntsAt w a n xs) => implInRange (c := cp) w hn hi)
          cases hall : xs.all inW
          · have HE : Hid (R = false) := HF' (by simp [hall])
            rw [hall] at C3
            clear HF' hxk hI hall e2
            go_wp2_with fail
            refine (C2.out _).mono ?_
            rintro e w5 ⟨rfl, hb5⟩
            have HB5 := Lib.hid (HB.out.later hb5)
            have HI5 := Lib.hid (HI.out.later hb5)
            clear HB HI HA c0 c1 c2 hlt hb1 hb5 d0
            subst hnN
            go_wp2_with fail
            refine (C3.out _ HI5.out).mono ?_
            rintro e w6 ⟨rfl, hb6⟩
            have HB6 := Lib.hid (HB5.out.later hb6)
            clear HB5 HI5 hb6
            go_wp2_with fail
            go_ret
            exact QB.of HE.out.symm HB6.out.2.2.2.2
          · have HD' : Hid (∀ (j : Nat) v, j < k + 1 → vs[j]? = some v → wtsB N v.2.2.2 = true) := fun j y hj hy => by
              by_cases e : j = k
              · subst e; rw [hxk] at hy; cases hy; simp [wtsB, hlen, hall, e2]
              · exact HD.out j y (by omega) hy
            rw [hall] at C3
            clear HF' hxk hI hall e2 HD
            go_wp2_with fail
            refine (C2.out _).mono ?_
            rintro e w5 ⟨rfl, hb5⟩
            have HB5 := Lib.hid (HB.out.later hb5)
            have HI5 := Lib.hid (HI.out.later hb5)
            have HA5 := Lib.hid (HA.out.later hb5)
            clear HB HI HA c0 c1 c2 hlt hb1 hb5 d0
            subst hnN
            go_wp2_with fail
            refine (C3.out _ HI5.out).mono ?_
            rintro e w6 ⟨rfl, hb6⟩
            have HB6 := Lib.hid (HB5.out.later hb6)
            have HA6 := Lib.hid (HA5.out.later hb6)
            clear HB5 HI5 HA5 hb6
            go_wp2_with fail
            go_roundw
            case rel => exact ⟨k + 1, by omega, by go_num, HA6, HB6, HD'⟩
            case measure => simp [intOf]; omega
        · have e1 : ¬ (n : Int) = (N : Int) := by omega
          have HE : Hid (R = false) := HF' (by simp [e1])
          clear HF' hxk hI
          go_wp2_with fail
          refine (C2.out _).mono ?_
          rintro e w5 ⟨rfl, hb5⟩
          have HB5 := Lib.hid (HB.out.later hb5)
          clear HB HI HA c0 c1 c2 hlt hb1 hb5 d0
          go_wp2_with fail
          go_ret
          exact QB.of HE.out.symm HB5.out.2.2.2.2
      · obtain rfl : k = m := by omega
        have HE : Hid (R = true) := HY.out fun j x hj => HD.out j x (by rw [← HV.out]; exact (List.getElem?_eq_some_iff.1 hj).1) hj
        clear HD HA
        go_wp2_with fail
        go_ret
        exact QB.of HE.out.symm hb1
set_option maxHeartbeats 1000000 in
set_option maxRecDepth 100000 in
theorem implWeightsOk (W H Z : Int) {a : Option Addr} {n c : Nat} {xs : List Int} (w : World) (hx : n ≤ 1048576) (h : IntsAt w a n xs) :
    Calls Tryz.prog 85 #[.agg #[.int .i64 W, .int .i64 H, .int .i64 Z], .slice a n c] w (QB (wOkB W H Z xs) w) := by
  have C1 := Lib.hid (fun (w : World) (g : Nat) (hv : ListsAt w g 1 [(a, n, c, xs)]) => implAreWeights W H Z (c := 1) w (by omega) hv)
  have e1 : (okB W H Z && argsB (W * H) [(a, n, c, xs)]) = wOkB W H Z xs := by simp [wOkB, argsB]
  rw [e1] at C1
  clear e1
  have HA := Lib.hid (h.later ((Below.refl _ _).alloc (Nat.le_refl _) (.cells #[.int .i64 W, .int .i64 H, .int .i64 Z] 25)))
  clear h
  go_enter Tryz.func85, Tryz.ntmps85
  go_wp2_with fail
  have B0 := Lib.hid (box_new W H Z w)
  have hS : (w.alloc (.cells #[.int .i64 W, .int .i64 H, .int .i64 Z] 25)).heap.size = w.heap.size + 1 := by simp
  generalize w.alloc (.cells #[.int .i64 W, .int .i64 H, .int .i64 Z] 25) = W1 at *
  obtain ⟨c0, c1, c2, hlt, hb1⟩ := B0.out
  have HL := Lib.hid (lists_one (T := 30) (c := c) HA.out hx)
  rw [hS] at HL
  clear hS
  have B1 := Lib.hid (B0.out.later ((Below.refl _ _).alloc (Nat.le_refl _) (.cells #[.slice a n c] 30)))
  clear HA
  go_wp2_with fail
  refine (C1.out _ _ HL.out).mono ?_
  rintro e w1 ⟨rfl, hb⟩
  have B2 := Lib.hid (B1.out.later hb)
  clear c0 c1 c2 hlt hb1 hb B0 B1 HL
  go_wp2_with fail
  go_ret
  exact ⟨rfl, B2.out.2.2.2.2⟩
set_option maxHeartbeats 1000000 in
set_option maxRecDepth 100000 in
theorem specWeightsOk (W H Z : Int) {a : Option Addr} {n c : Nat} {xs : List Int} (w : World) (hx : n ≤ 1048576) (h : IntsAt w a n xs) :
    Calls Tryz.prog 46 #[.agg #[.int .i64 W, .int .i64 H, .int .i64 Z], .slice a n c] w (QB (wOkB W H Z xs) w) := by
  have HN := Lib.hid h.1
  have HA := Lib.hid (h.later ((Below.refl _ _).alloc (Nat.le_refl _) (.cells #[.int .i64 W, .int .i64 H, .int .i64 Z] 25)))
  have HF : Hid (∀ (k : Nat) x, xs[k]? = some x → inW x = false → wOkB W H Z xs = false) := fun k x hk hh => by simp [wOkB, wtsB, all_not hk hh]
  have HY : Hid ((∀ (k : Nat) x, xs[k]? = some x → inW x = true) → wOkB W H Z xs = (okB W H Z && decide ((n : Int) = W * H))) := fun hh => by simp [wOkB, wtsB, all_of hh, h.1]
  have CI := Lib.hid (fun x w => specIn x (-1000) 1000 w)
  generalize wOkB W H Z xs = R at *
  clear h
  go_enter Tryz.func46, Tryz.ntmps46
  go_wp2_with fail
  have B0 := Lib.hid (box_new W H Z w)
  generalize w.alloc (.cells #[.int .i64 W, .int .i64 H, .int .i64 Z] 25) = W1 at *
  go_loopw [5] (fun i wr => ∃ k : Nat, k ≤ n ∧ i = .int .i64 k ∧ wr = W1 ∧ Hid (∀ (j : Nat) x, j < k → xs[j]? = some x → inW x = true)) (fun i _ => n - (intOf i).toNat)
  case atStart => exact ⟨0, Nat.zero_le _, rfl, rfl, fun j x hj => absurd hj (Nat.not_lt_zero _)⟩
  case round =>
    obtain ⟨k, hk, rfl, rfl, HD⟩ := hrel
    by_cases hlt : k < n
    · have h0 : (0 : Int) ≤ (k : Int) := by omega
      have h1 : (k : Int) < (n : Int) := by omega
      obtain ⟨x, hxk⟩ : ∃ l, xs[k]? = some l := ⟨_, List.getElem?_eq_getElem (by rw [HN.out]; exact hlt)⟩
      obtain ⟨b, off, rfl, hb, hc⟩ := HA.out.cell hlt
      have c0 := hc k x hxk
      clear hc
      have CX := Lib.hid (CI.out x)
      cases hw : inW x
      · have HE := Lib.hid (HF.out k x hxk hw)
        rw [show inB x (-1000) 1000 = false from hw] at CX
        clear hxk hw
        go_wp2_with fail
        refine (CX.out _).mono ?_
        rintro e w5 ⟨rfl, rfl⟩
        go_wp2_with fail
        go_ret
        exact QB.of HE.out.symm B0.out.2.2.2.2
      · have HD' : Hid (∀ (j : Nat) x, j < k + 1 → xs[j]? = some x → inW x = true) := fun j y hj hy => by
          by_cases e : j = k
          · subst e; rw [hxk] at hy; cases hy; exact hw
          · exact HD.out j y (by omega) hy
        rw [show inB x (-1000) 1000 = true from hw] at CX
        clear hxk hw HD
        go_wp2_with fail
        refine (CX.out _).mono ?_
        rintro e w5 ⟨rfl, rfl⟩
        go_wp2_with fail
        go_roundw
        case rel => exact ⟨k + 1, by omega, by go_num, trivial, HD'⟩
        case measure => simp [intOf]; omega
    · obtain rfl : k = n := by omega
      have HE : Hid (R = (okB W H Z && decide ((k : Int) = W * H))) := HY.out fun j x hj => HD.out j x (by rw [← HN.out]; exact (List.getElem?_eq_some_iff.1 hj).1) hj
      clear HD HY HF
      obtain ⟨c0, c1, c2, hlt', hb1⟩ := B0.out
      cases hok : okB W H Z
      · have C1 := Lib.hid (specOk_no hok)
        have HE' : Hid (R = false) := by unfold Hid; rw [HE.out, hok]; rfl
        clear HE hok
        go_wp2_with fail
        refine (C1.out _).mono ?_
        rintro e w5 ⟨rfl, hb⟩
        have B5 := Lib.hid (B0.out.later hb)
        clear c0 c1 c2 hlt' hb1 hb B0
        go_wp2_with fail
        go_ret
        exact QB.of HE'.out.symm B5.out.2.2.2.2
      · obtain ⟨N, z, rfl, ho⟩ := ok_of hok
        have hN := ho.wh
        have h49 := ho.n49
        have C1 := Lib.hid (specOk_yes ho)
        rw [hok, hN] at HE
        clear hok ho
        go_wp2_with fail
        refine (C1.out _).mono ?_
        rintro e w5 ⟨rfl, hb⟩
        have B5 := Lib.hid (B0.out.later hb)
        clear c0 c1 c2 hlt' hb1 hb B0
        obtain ⟨c0, c1, c2, hlt', hb1⟩ := B5.out
        by_cases hkN : (k : Int) = (N : Int)
        · have HE' : Hid (R = true) := by unfold Hid; rw [HE.out]; simp [hkN]
          clear HE
          go_wp2_with fail
          go_ret
          exact QB.of HE'.out.symm hb1
        · have HE' : Hid (R = false) := by unfold Hid; rw [HE.out]; simp [hkN]
          clear HE
          go_wp2_with fail
          go_ret
          exact QB.of (by rw [HE'.out]; simp [hkN]) hb1
end Go.Proofs.YtllfgdcplbfdhaaGreat

namespace Go.Proofs.YtllfgdcplbfdhaaGreat
open Go.RowKit
set_option linter.unusedVariables false
set_option linter.unusedSimpArgs false
set_option maxHeartbeats 1000000 in
set_option maxRecDepth 100000 in
theorem implLossOn {a : Option Addr} {n c : Nat} {xs : List Int} {f o t : Nat} (w : World) (hx : n ≤ 1048576) (h : IntsAt w a n xs) (hall : xs.all inW = true) (hf : f < n) (ho : o < n) (ht : t < n) :
    Calls Tryz.prog 116 #[.slice a n c, .agg #[.int .i64 f, .int .i64 o, .int .i64 t]] w (QI (lossL xs ((f : Int), (o : Int), (t : Int))) w) := by
  have hlen := h.1
  obtain ⟨x, hxf⟩ : ∃ x, xs[f]? = some x := ⟨_, List.getElem?_eq_getElem (by rw [hlen]; exact hf)⟩
  obtain ⟨y, hyo⟩ : ∃ x, xs[o]? = some x := ⟨_, List.getElem?_eq_getElem (by rw [hlen]; exact ho)⟩
  obtain ⟨u, hut⟩ : ∃ x, xs[t]? = some x := ⟨_, List.getElem?_eq_getElem (by rw [hlen]; exact ht)⟩
  have HE : Hid (lossL xs ((f : Int), (o : Int), (t : Int)) = x + y - u) := by
    show wAt xs f + wAt xs o - wAt xs t = _
    rw [wAt_get hxf, wAt_get hyo, wAt_get hut]
  obtain ⟨x1, x2⟩ := all_get hall hxf
  obtain ⟨y1, y2⟩ := all_get hall hyo
  obtain ⟨u1, u2⟩ := all_get hall hut
  have h2 := h.later ((Below.refl _ _).alloc (Nat.le_refl _) (.cells #[.int .i64 (f : Int), .int .i64 (o : Int), .int .i64 (t : Int)] 46))
  obtain ⟨b, off, rfl, hb, hc⟩ := h2.cell hf
  have d0 := hc f x hxf
  have d1 := hc o y hyo
  have d2 := hc t u hut
  have f0 : (0 : Int) ≤ (f : Int) := by omega
  have f1 : (f : Int) < (n : Int) := by omega
  have o0 : (0 : Int) ≤ (o : Int) := by omega
  have o1 : (o : Int) < (n : Int) := by omega
  have t0 : (0 : Int) ≤ (t : Int) := by omega
  have t1 : (t : Int) < (n : Int) := by omega
  rw [HE.out]
  clear HE hxf hyo hut hall h h2 hc hlen
  go_enter Tryz.func116, Tryz.ntmps116
  go_wp2_with fail
  have B0 := Lib.hid (box_newT 46 f o t w)
  generalize w.alloc (.cells #[.int .i64 (f : Int), .int .i64 (o : Int), .int .i64 (t : Int)] 46) = W1 at *
  obtain ⟨c0, c1, c2, hlt, hb1⟩ := B0.out
  go_wp2_with fail
  go_quiet (fail)
  go_wp2_with fail
  go_ret
  exact ⟨rfl, below_drewN _ hb1⟩
/-- A line of the board in the list of weights, in naturals. -/
theorem line_in {W H Z f o t : Int} {xs : List Int} (hw : wOkB W H Z xs = true) (hc : (lnsOf W H Z).contains (f, o, t) = true) :
    ∃ f' o' t' : Nat, f = f' ∧ o = o' ∧ t = t' ∧ f' < xs.length ∧ o' < xs.length ∧ t' < xs.length := by
  obtain ⟨hok, hlen, hall⟩ := wOk_yes hw
  obtain ⟨a, b, N, z, rfl, rfl, rfl, ho⟩ := okNat hok
  rw [lnsOf_ok ho, List.contains_iff_mem] at hc
  obtain ⟨f', o', t', e, h1, h2, h3, -⟩ := line_wts ho hlen hc
  simp only [Prod.mk.injEq] at e
  exact ⟨f', o', t', e.1, e.2.1, e.2.2, h1, h2, h3⟩
end Go.Proofs.YtllfgdcplbfdhaaGreat

namespace Go.Proofs.YtllfgdcplbfdhaaGreat
open Go.RowKit
set_option linter.unusedVariables false
set_option linter.unusedSimpArgs false
theorem brk_no {W H Z : Int} {xs : List Int} (h : wOkB W H Z xs = false) : brkL W H Z xs = none := by simp [brkL, h]
theorem brk_yes {W H Z : Int} {xs : List Int} (h : wOkB W H Z xs = true) : brkL W H Z xs = (lnsOf W H Z).find? (badL xs) := by simp [brkL, h]
theorem line_at {W H Z : Int} {xs : List Int} (hw : wOkB W H Z xs = true) {k : Nat} {f o t : Int} (hk : (lnsOf W H Z)[k]? = some (f, o, t)) :
    ∃ f' o' t' : Nat, f = f' ∧ o = o' ∧ t = t' ∧ f' < xs.length ∧ o' < xs.length ∧ t' < xs.length :=
  line_in hw (by rw [List.contains_iff_mem]; exact List.mem_of_getElem? hk)
set_option maxHeartbeats 1000000 in
set_option maxRecDepth 100000 in
theorem implBroken (W H Z : Int) {a : Option Addr} {n c : Nat} {xs : List Int} (w : World) (hx : n ≤ 1048576) (h : IntsAt w a n xs) :
    Calls Tryz.prog 86 #[.agg #[.int .i64 W, .int .i64 H, .int .i64 Z], .slice a n c] w fun e w' => e = .returned (lineV (brkL W H Z xs)) ∧ Below w.heap.size w w' := by
  have C1 := Lib.hid (fun w (hi : IntsAt w a n xs) => implWeightsOk W H Z (c := c) w hx hi)
  have HI := Lib.hid h
  cases hw : wOkB W H Z xs
  · rw [brk_no hw]
    rw [hw] at C1
    clear hw h
    go_enter Tryz.func86, Tryz.ntmps86
    go_wp2_with fail
    have B0 := Lib.hid (two_new W H Z w)
    generalize (w.alloc (.cells #[.int .i64 W, .int .i64 H, .int .i64 Z] 25)).alloc (.cells #[.int .i64 0, .int .i64 0, .int .i64 0] 46) = W1 at *
    have HA := Lib.hid (HI.out.later B0.out.1.2.2.2.2)
    obtain ⟨⟨c0, c1, c2, hlt, hbw⟩, -⟩ := B0.out
    go_wp2_with fail
    refine (C1.out _ HA.out).mono ?_
    rintro e w1 ⟨rfl, hb1⟩
    have B1 := Lib.hid (B0.out.later hb1)
    clear hb1 B0 c0 c1 c2 hlt hbw HA
    obtain ⟨⟨c0, c1, c2, hlt, hbw⟩, hr, hlt2⟩ := B1.out
    obtain ⟨r0, r1, r2, f0, f1, f2⟩ := row_facts hr
    clear hr
    go_wp2_with fail
    exact bodyPost_ret (v := .tuple #[.agg #[.int .i64 0, .int .i64 0, .int .i64 0], .bool false]) (by simp [results, Tryz.results86, go_sem, r0, r1, r2]) rfl ⟨rfl, by repeat (first | exact hbw | refine set_below ?_ (by omega))⟩
  · rw [brk_yes hw]
    rw [hw] at C1
    obtain ⟨hok, hwl, hall⟩ := wOk_yes hw
    have hle := lnsOf_le W H Z
    have C2 := Lib.hid (fun w => implLinesA W H Z w)
    have HL := Lib.hid (fun k f o t (hk : (lnsOf W H Z)[k]? = some (f, o, t)) => line_at hw hk)
    have hln := h.1
    rw [hln] at HL
    have C3 := Lib.hid (fun (f o t : Nat) w (hi : IntsAt w a n xs) (l1 : f < n) (l2 : o < n) (l3 : t < n) => implLossOn (c := c) w hx hi hall l1 l2 l3)
    obtain ⟨ls, hls⟩ : ∃ ls, lnsOf W H Z = ls := ⟨_, rfl⟩
    rw [hls] at hle C2 HL ⊢
    clear hls hw h hok hwl hall hln
    obtain ⟨m, hm⟩ : ∃ m, ls.length = m := ⟨_, rfl⟩
    have HM := Lib.hid hm
    rw [hm] at hle
    clear hm
    go_enter Tryz.func86, Tryz.ntmps86
    go_wp2_with fail
    have B0 := Lib.hid (two_new W H Z w)
    generalize (w.alloc (.cells #[.int .i64 W, .int .i64 H, .int .i64 Z] 25)).alloc (.cells #[.int .i64 0, .int .i64 0, .int .i64 0] 46) = W1 at *
    have HA := Lib.hid (HI.out.later B0.out.1.2.2.2.2)
    obtain ⟨⟨c0, c1, c2, hlt, hbw⟩, -⟩ := B0.out
    go_wp2_with fail
    refine (C1.out _ HA.out).mono ?_
    rintro e w1 ⟨rfl, hb1⟩
    have B1 := Lib.hid (B0.out.later hb1)
    clear hb1 B0 c0 c1 c2 hlt hbw HA C1
    obtain ⟨⟨c0, c1, c2, hlt, hbw⟩, -⟩ := B1.out
    go_wp2_with fail
    refine (C2.out _).mono ?_
    rintro e w2 ⟨v, rfl, hh, hb1⟩
    rw [HM.out] at hh
    have B2 := Lib.hid (B1.out.later hb1)
    have HH := Lib.hid hh
    obtain ⟨ga, gc, rfl⟩ := lines_form hh
    clear hb1 B1 hh c0 c1 c2 hlt hbw C2
    go_wp2_with fail
    generalize w1.heap.size = B at *
    go_loopw [16] (fun i wr => ∃ k : Nat, k ≤ m ∧ i = .int .i64 k ∧ Hid ((ls.take k).find? (badL xs) = none) ∧ Hid (wr.ownsRow B 46 3 (.slice ga m gc) m (lv ls)) ∧ Hid (Two W H Z w wr)) (fun i _ => m - (intOf i).toNat)
    case atStart => exact ⟨0, by omega, rfl, rfl, HH, B2⟩
    case round =>
      clear HH B2
      obtain ⟨k, hk, rfl, hf, HH, B1⟩ := hrel
      by_cases hkn : k < m
      · obtain ⟨⟨lf, lo, lt⟩, hl⟩ : ∃ l, ls[k]? = some l := ⟨_, List.getElem?_eq_getElem (by rw [HM.out]; exact hkn)⟩
        obtain ⟨lf, lo, lt, rfl, rfl, rfl, m1, m2, m3⟩ := HL.out k _ _ _ hl
        have k0 : (0 : Int) ≤ (k : Int) := by omega
        have k1 : (k : Int) < (m : Int) := by omega
        obtain ⟨g, rfl⟩ : ∃ g, ga = some ⟨g, 0, none⟩ := by
          rcases Go.Joins.ownsRow_forms HH.out with ⟨h, h0⟩ | ⟨g, cap, h⟩
          · omega
          · injection h with h1 h2 h3; exact ⟨g, h1⟩
        obtain ⟨l0, l1, l2⟩ := line_cells HH.out HM.out hl
        have hbl : Below wr.heap.size wr (wr.alloc (.cells #[.int .i64 (lf : Int), .int .i64 (lo : Int), .int .i64 (lt : Int)] 46)) := (Below.refl _ _).alloc (Nat.le_refl _) _
        have HH2 := Lib.hid (own_below HH.out hbl)
        have B2 := Lib.hid (B1.out.later hbl)
        have R2 := Lib.hid (heap_alloc_new wr (.cells #[.int .i64 (lf : Int), .int .i64 (lo : Int), .int .i64 (lt : Int)] 46))
        have P2 : Hid (wr.heap.size < (wr.alloc (.cells #[.int .i64 (lf : Int), .int .i64 (lo : Int), .int .i64 (lt : Int)] 46)).heap.size) := by unfold Hid; simp
        have hstep : Hid (badL xs ((lf : Int), (lo : Int), (lt : Int)) = false → (ls.take (k + 1)).find? (badL xs) = none) := fun hp => find_step hf.out hl hp
        have hfind : Hid (badL xs ((lf : Int), (lo : Int), (lt : Int)) = true → ls.find? (badL xs) = some ((lf : Int), (lo : Int), (lt : Int))) := fun hp => find_at hf.out hl hp
        have C4 := Lib.hid (fun w hi => C3.out lf lo lt w hi m1 m2 m3)
        unfold badL at hstep hfind
        obtain ⟨r, hr⟩ : ∃ r, lossL xs ((lf : Int), (lo : Int), (lt : Int)) = r := ⟨_, rfl⟩
        rw [hr] at C4 hstep hfind
        clear hbl hl hf hr HH B1 m1 m2 m3
        obtain ⟨r0, r1, r2, -, -, -⟩ := row_facts R2.out
        go_wp2_with fail
        clear l0 l1 l2
        generalize wr.alloc (.cells #[.int .i64 (lf : Int), .int .i64 (lo : Int), .int .i64 (lt : Int)] 46) = wa at *
        refine (C4.out _ (HI.out.later B2.out.1.2.2.2.2)).mono ?_
        rintro e wb ⟨rfl, hb⟩
        have HH3 := Lib.hid (own_below HH2.out hb)
        have B3 := Lib.hid (B2.out.later hb)
        have R3 := Lib.hid (row_later R2.out hb P2.out)
        clear C4 HH2 B2 R2 r0 r1 r2 hb P2
        by_cases hr0 : r < 0
        · have HE : Hid (ls.find? (badL xs) = some ((lf : Int), (lo : Int), (lt : Int))) := hfind.out (decide_eq_true hr0)
          obtain ⟨r0, r1, r2, -, -, -⟩ := row_facts R3.out
          obtain ⟨⟨c0, c1, c2, hlt, hbw⟩, hr, hlt2⟩ := B3.out
          obtain ⟨s0, s1, s2, f0, f1, f2⟩ := row_facts hr
          have hr3 := row_facts (row_set3 (x' := .int .i64 (lf : Int)) (y' := .int .i64 (lo : Int)) (z' := .int .i64 (lt : Int)) hr)
          have hb3 := set3_below (x := .int .i64 (lf : Int)) (y := .int .i64 (lo : Int)) (z := .int .i64 (lt : Int)) hbw (Nat.le_succ w.heap.size)
          unfold set3 at hr3 hb3
          obtain ⟨t0, t1, t2, -, -, -⟩ := hr3
          clear hr hstep hfind HH3 B3 R3
          go_wp2_with fail
          exact bodyPost_ret (v := .tuple #[.agg #[.int .i64 (lf : Int), .int .i64 (lo : Int), .int .i64 (lt : Int)], .bool true]) (by simp [results, Tryz.results86, go_sem, t0, t1, t2]) rfl ⟨by rw [HE.out]; rfl, hb3⟩
        · have HE : Hid ((ls.take (k + 1)).find? (badL xs) = none) := hstep.out (decide_eq_false hr0)
          clear hstep hfind R3
          go_wp2_with fail
          go_roundw
          case rel => exact ⟨k + 1, by omega, by go_num, HE, HH3, B3⟩
          case measure => simp [intOf]; omega
      · obtain rfl : k = m := by omega
        have hE : Hid (ls.find? (badL xs) = none) := by
          unfold Hid
          rw [← List.take_of_length_le (l := ls) (by rw [HM.out]; exact Nat.le_refl k), hf.out]
        obtain ⟨⟨c0, c1, c2, hlt, hbw⟩, hr, hlt2⟩ := B1.out
        obtain ⟨r0, r1, r2, f0, f1, f2⟩ := row_facts hr
        clear hr HH B1 hf
        go_wp2_with fail
        exact bodyPost_ret (v := .tuple #[.agg #[.int .i64 0, .int .i64 0, .int .i64 0], .bool false]) (by simp [results, Tryz.results86, go_sem, r0, r1, r2]) rfl ⟨by rw [hE.out]; rfl, by repeat (first | exact hbw | refine set_below ?_ (by omega))⟩
set_option maxHeartbeats 1000000 in
set_option maxRecDepth 100000 in
theorem specBroken (W H Z : Int) {a : Option Addr} {n c : Nat} {xs : List Int} (w : World) (hx : n ≤ 1048576) (h : IntsAt w a n xs) :
    Calls Tryz.prog 45 #[.agg #[.int .i64 W, .int .i64 H, .int .i64 Z], .slice a n c] w fun e w' => e = .returned (lineV (brkL W H Z xs)) ∧ Below w.heap.size w w' := by
  have C1 := Lib.hid (fun w (hi : IntsAt w a n xs) => specWeightsOk W H Z (c := c) w hx hi)
  have C2 := Lib.hid (fun w => specLinesA W H Z w)
  have hle := lnsOf_le W H Z
  have HI := Lib.hid h
  cases hw : wOkB W H Z xs
  · rw [brk_no hw]
    rw [hw] at C1
    obtain ⟨ls, hls⟩ : ∃ ls, lnsOf W H Z = ls := ⟨_, rfl⟩
    rw [hls] at hle C2
    clear hls hw h
    obtain ⟨m, hm⟩ : ∃ m, ls.length = m := ⟨_, rfl⟩
    have HM := Lib.hid hm
    rw [hm] at hle
    clear hm
    go_enter Tryz.func45, Tryz.ntmps45
    go_wp2_with fail
    have B0 := Lib.hid (two_new W H Z w)
    generalize (w.alloc (.cells #[.int .i64 W, .int .i64 H, .int .i64 Z] 25)).alloc (.cells #[.int .i64 0, .int .i64 0, .int .i64 0] 46) = W1 at *
    obtain ⟨⟨c0, c1, c2, hlt, hbw⟩, -⟩ := B0.out
    go_wp2_with fail
    refine (C2.out _).mono ?_
    rintro e w2 ⟨v, rfl, hh, hb1⟩
    rw [HM.out] at hh
    have B2 := Lib.hid (B0.out.later hb1)
    obtain ⟨ga, gc, rfl⟩ := lines_form hh
    clear hb1 B0 hh c0 c1 c2 hlt hbw C2
    go_wp2_with fail
    go_loopw [7] (fun i wr => i = .int .i64 0 ∧ Hid (Two W H Z w wr)) (fun i _ => 0)
    case atStart => exact ⟨rfl, B2⟩
    case round =>
      clear B2
      obtain ⟨rfl, B2⟩ := hrel
      obtain ⟨⟨c0, c1, c2, hlt, hbw⟩, hr, hlt2⟩ := B2.out
      by_cases hm : 0 < m
      · have k1 : (0 : Int) < (m : Int) := by omega
        clear hr
        go_wp2_with fail
        refine (C1.out _ (HI.out.later hbw)).mono ?_
        rintro e w3 ⟨rfl, hb⟩
        have B3 := Lib.hid (B2.out.later hb)
        clear hb B2 c0 c1 c2 hlt hbw hlt2
        obtain ⟨⟨c0, c1, c2, hlt, hbw⟩, hr, hlt2⟩ := B3.out
        obtain ⟨r0, r1, r2, f0, f1, f2⟩ := row_facts hr
        clear hr
        go_wp2_with fail
        exact bodyPost_ret (v := .tuple #[.agg #[.int .i64 0, .int .i64 0, .int .i64 0], .bool false]) (by simp [results, Tryz.results45, go_sem, r0, r1, r2]) rfl ⟨rfl, by repeat (first | exact hbw | refine set_below ?_ (by omega))⟩
      · have k1 : ¬ (0 : Int) < (m : Int) := by omega
        obtain ⟨r0, r1, r2, f0, f1, f2⟩ := row_facts hr
        clear hr
        go_wp2_with fail
        exact bodyPost_ret (v := .tuple #[.agg #[.int .i64 0, .int .i64 0, .int .i64 0], .bool false]) (by simp [results, Tryz.results45, go_sem, r0, r1, r2]) rfl ⟨rfl, by repeat (first | exact hbw | refine set_below ?_ (by omega))⟩
  · rw [brk_yes hw]
    rw [hw] at C1
    obtain ⟨hok, hwl, hall⟩ := wOk_yes hw
    have HL := Lib.hid (fun k f o t (hk : (lnsOf W H Z)[k]? = some (f, o, t)) => line_at hw hk)
    have hln := h.1
    rw [hln] at HL
    have HC : Hid (∀ w (f o t : Nat), IntsAt w a n xs → f < n → o < n → t < n → ∃ b off, ∃ x y u : Int, a = some ⟨b, off, none⟩ ∧ lossL xs ((f : Int), (o : Int), (t : Int)) = x + y - u ∧ -1000 ≤ x ∧ x ≤ 1000 ∧ -1000 ≤ y ∧ y ≤ 1000 ∧ -1000 ≤ u ∧ u ≤ 1000 ∧ w.cell? ⟨b, off + f, none⟩ = some (.int .i64 x) ∧ w.cell? ⟨b, off + o, none⟩ = some (.int .i64 y) ∧ w.cell? ⟨b, off + t, none⟩ = some (.int .i64 u)) := fun w f o t hi l1 l2 l3 => by
      obtain ⟨b, off, e, -, hcc⟩ := hi.cell l1
      have g1 := get_wAt (xs := xs) (k := f) (by rw [hln]; exact l1)
      have g2 := get_wAt (xs := xs) (k := o) (by rw [hln]; exact l2)
      have g3 := get_wAt (xs := xs) (k := t) (by rw [hln]; exact l3)
      obtain ⟨x1, x2⟩ := all_get hall g1
      obtain ⟨y1, y2⟩ := all_get hall g2
      obtain ⟨u1, u2⟩ := all_get hall g3
      exact ⟨b, off, _, _, _, e, rfl, x1, x2, y1, y2, u1, u2, hcc _ _ g1, hcc _ _ g2, hcc _ _ g3⟩
    obtain ⟨ls, hls⟩ : ∃ ls, lnsOf W H Z = ls := ⟨_, rfl⟩
    rw [hls] at hle C2 HL ⊢
    clear hls hw h hok hwl hall hln
    obtain ⟨m, hm⟩ : ∃ m, ls.length = m := ⟨_, rfl⟩
    have HM := Lib.hid hm
    rw [hm] at hle
    clear hm
    go_enter Tryz.func45, Tryz.ntmps45
    go_wp2_with fail
    have B0 := Lib.hid (two_new W H Z w)
    generalize (w.alloc (.cells #[.int .i64 W, .int .i64 H, .int .i64 Z] 25)).alloc (.cells #[.int .i64 0, .int .i64 0, .int .i64 0] 46) = W1 at *
    obtain ⟨⟨c0, c1, c2, hlt, hbw⟩, -⟩ := B0.out
    go_wp2_with fail
    refine (C2.out _).mono ?_
    rintro e w2 ⟨v, rfl, hh, hb1⟩
    rw [HM.out] at hh
    have B2 := Lib.hid (B0.out.later hb1)
    have HH := Lib.hid hh
    obtain ⟨ga, gc, rfl⟩ := lines_form hh
    clear hb1 B0 hh c0 c1 c2 hlt hbw C2
    go_wp2_with fail
    generalize W1.heap.size = B at *
    go_loopw [7] (fun i wr => ∃ k : Nat, k ≤ m ∧ i = .int .i64 k ∧ Hid ((ls.take k).find? (badL xs) = none) ∧ Hid (wr.ownsRow B 46 3 (.slice ga m gc) m (lv ls)) ∧ Hid (Two W H Z w wr)) (fun i _ => m - (intOf i).toNat)
    case atStart => exact ⟨0, by omega, rfl, rfl, HH, B2⟩
    case round =>
      clear HH B2
      obtain ⟨k, hk, rfl, hf, HH, B1⟩ := hrel
      by_cases hkn : k < m
      · obtain ⟨⟨lf, lo, lt⟩, hl⟩ : ∃ l, ls[k]? = some l := ⟨_, List.getElem?_eq_getElem (by rw [HM.out]; exact hkn)⟩
        obtain ⟨lf, lo, lt, rfl, rfl, rfl, m1, m2, m3⟩ := HL.out k _ _ _ hl
        have k0 : (0 : Int) ≤ (k : Int) := by omega
        have k1 : (k : Int) < (m : Int) := by omega
        obtain ⟨g, rfl⟩ : ∃ g, ga = some ⟨g, 0, none⟩ := by
          rcases Go.Joins.ownsRow_forms HH.out with ⟨h, h0⟩ | ⟨g, cap, h⟩
          · omega
          · injection h with h1 h2 h3; exact ⟨g, h1⟩
        have hstep : Hid (badL xs ((lf : Int), (lo : Int), (lt : Int)) = false → (ls.take (k + 1)).find? (badL xs) = none) := fun hp => find_step hf.out hl hp
        have hfind : Hid (badL xs ((lf : Int), (lo : Int), (lt : Int)) = true → ls.find? (badL xs) = some ((lf : Int), (lo : Int), (lt : Int))) := fun hp => find_at hf.out hl hp
        have CL : Hid (∀ w : World, w.ownsRow B 46 3 (.slice (some ⟨g, 0, none⟩) m gc) m (lv ls) → w.cell? ⟨g, k * 3, none⟩ = some (.int .i64 (lf : Int)) ∧ w.cell? ⟨g, k * 3 + 1, none⟩ = some (.int .i64 (lo : Int)) ∧ w.cell? ⟨g, k * 3 + 2, none⟩ = some (.int .i64 (lt : Int))) := fun w hh => line_cells hh HM.out hl
        obtain ⟨⟨c0, c1, c2, hlt, hbw⟩, -⟩ := B1.out
        clear hl hf
        go_wp2_with fail
        refine (C1.out _ (HI.out.later hbw)).mono ?_
        rintro e w3 ⟨rfl, hb⟩
        have B3 := Lib.hid (B1.out.later hb)
        have HH3 := Lib.hid (own_below HH.out hb)
        clear hb B1 HH c0 c1 c2 hlt hbw
        obtain ⟨⟨c0, c1, c2, hlt, hbw⟩, hr, hlt2⟩ := B3.out
        obtain ⟨b, off, x, y, u, rfl, hloss, x1, x2, y1, y2, u1, u2, e0, e1, e2⟩ := HC.out _ lf lo lt (HI.out.later hbw) m1 m2 m3
        obtain ⟨l0, l1, l2⟩ := CL.out _ HH3.out
        have f0 : (0 : Int) ≤ (lf : Int) := by omega
        have f1 : (lf : Int) < (n : Int) := by omega
        have o0 : (0 : Int) ≤ (lo : Int) := by omega
        have o1 : (lo : Int) < (n : Int) := by omega
        have t0 : (0 : Int) ≤ (lt : Int) := by omega
        have t1 : (lt : Int) < (n : Int) := by omega
        by_cases hr0 : x + y < u
        · have HE : Hid (ls.find? (badL xs) = some ((lf : Int), (lo : Int), (lt : Int))) := hfind.out (by unfold badL; rw [hloss]; exact decide_eq_true (by omega))
          obtain ⟨r0, r1, r2, g0, g1, g2⟩ := row_facts hr
          have hr3 := row_facts (row_set3 (x' := .int .i64 (lf : Int)) (y' := .int .i64 (lo : Int)) (z' := .int .i64 (lt : Int)) (show (w3.drewN 0).heap[w.heap.size + 1]? = _ from hr))
          have HR3 : Hid (∀ q, (set3 (w3.drewN q) (w.heap.size + 1) (.int .i64 (lf : Int)) (.int .i64 (lo : Int)) (.int .i64 (lt : Int))).heap[w.heap.size + 1]? = some (.cells #[.int .i64 (lf : Int), .int .i64 (lo : Int), .int .i64 (lt : Int)] 46 (0, 0))) := fun q => row_set3 (show (w3.drewN q).heap[w.heap.size + 1]? = _ from hr)
          have HB3 : Hid (∀ q, Below w.heap.size w (set3 (w3.drewN q) (w.heap.size + 1) (.int .i64 (lf : Int)) (.int .i64 (lo : Int)) (.int .i64 (lt : Int)))) := fun q => set3_below (below_drewN q hbw) (Nat.le_succ w.heap.size)
          clear hr hr3 hstep hfind hloss B3 hbw
          go_wp2_with fail
          go_quiet (fail)
          have hq := HR3.out nq
          have hbq := HB3.out nq
          obtain ⟨s0, s1, s2, -, -, -⟩ := row_facts hq
          unfold set3 at s0 s1 s2 hbq
          clear hq
          go_wp2_with fail
          exact bodyPost_ret (v := .tuple #[.agg #[.int .i64 (lf : Int), .int .i64 (lo : Int), .int .i64 (lt : Int)], .bool true]) (by simp [results, Tryz.results45, go_sem, s0, s1, s2]) rfl ⟨by rw [HE.out]; rfl, hbq⟩
        · have HE : Hid ((ls.take (k + 1)).find? (badL xs) = none) := hstep.out (by unfold badL; rw [hloss]; exact decide_eq_false (by omega))
          have HHq : Hid (∀ q, (w3.drewN q).ownsRow B 46 3 (.slice (some ⟨g, 0, none⟩) m gc) m (lv ls)) := fun q => HH3.out
          have Bq : Hid (∀ q, Two W H Z w (w3.drewN q)) := fun q => B3.out.later (below_drewN q (Below.refl _ _))
          clear hr hstep hfind hloss HH3 B3
          go_wp2_with fail
          go_quiet (fail)
          go_wp2_with fail
          go_roundw
          case rel => exact ⟨k + 1, by omega, by go_num, HE, HHq.out _, Bq.out _⟩
          case measure => simp [intOf]; omega
      · obtain rfl : k = m := by omega
        have hE : Hid (ls.find? (badL xs) = none) := by
          unfold Hid
          rw [← List.take_of_length_le (l := ls) (by rw [HM.out]; exact Nat.le_refl k), hf.out]
        obtain ⟨⟨c0, c1, c2, hlt, hbw⟩, hr, hlt2⟩ := B1.out
        obtain ⟨r0, r1, r2, f0, f1, f2⟩ := row_facts hr
        clear hr HH B1 hf
        go_wp2_with fail
        exact bodyPost_ret (v := .tuple #[.agg #[.int .i64 0, .int .i64 0, .int .i64 0], .bool false]) (by simp [results, Tryz.results45, go_sem, r0, r1, r2]) rfl ⟨by rw [hE.out]; rfl, by repeat (first | exact hbw | refine set_below ?_ (by omega))⟩
set_option maxHeartbeats 1000000 in
set_option maxRecDepth 100000 in
theorem implFalling (W H Z : Int) {a : Option Addr} {n c : Nat} {xs : List Int} (w : World) (hx : n ≤ 1048576) (h : IntsAt w a n xs) :
    Calls Tryz.prog 42 #[.agg #[.int .i64 W, .int .i64 H, .int .i64 Z], .slice a n c] w (QB (fallB W H Z xs) w) := by
  have C1 := Lib.hid (fun w (hi : IntsAt w a n xs) => implWeightsOk W H Z (c := c) w hx hi)
  have C2 := Lib.hid (fun w (hi : IntsAt w a n xs) => implBroken W H Z (c := c) w hx hi)
  have HI := Lib.hid h
  unfold fallB
  generalize brkL W H Z xs = r at *
  generalize wOkB W H Z xs = y at *
  clear h
  cases y
  · go_enter Tryz.func42, Tryz.ntmps42
    go_wp2_with fail
    have B0 := Lib.hid (box_new W H Z w)
    generalize w.alloc (.cells #[.int .i64 W, .int .i64 H, .int .i64 Z] 25) = W1 at *
    obtain ⟨c0, c1, c2, hlt, hb1⟩ := B0.out
    go_wp2_with fail
    refine (C1.out _ (HI.out.later hb1)).mono ?_
    rintro e w1 ⟨rfl, hb⟩
    have B1 := Lib.hid (B0.out.later hb)
    clear c0 c1 c2 hlt hb1 hb B0
    go_wp2_with fail
    go_ret
    exact ⟨rfl, B1.out.2.2.2.2⟩
  · rcases r with _ | ⟨f, o, t⟩
    all_goals
      go_enter Tryz.func42, Tryz.ntmps42
      go_wp2_with fail
      have B0 := Lib.hid (box_new W H Z w)
      generalize w.alloc (.cells #[.int .i64 W, .int .i64 H, .int .i64 Z] 25) = W1 at *
      obtain ⟨c0, c1, c2, hlt, hb1⟩ := B0.out
      go_wp2_with fail
      refine (C1.out _ (HI.out.later hb1)).mono ?_
      rintro e w1 ⟨rfl, hb⟩
      have B1 := Lib.hid (B0.out.later hb)
      clear c0 c1 c2 hlt hb1 hb B0
      obtain ⟨c0, c1, c2, hlt, hb1⟩ := B1.out
      go_wp2_with fail
      refine (C2.out _ (HI.out.later hb1)).mono ?_
      rintro e w2 ⟨rfl, hb⟩
      have B2 := Lib.hid (B1.out.later hb)
      clear c0 c1 c2 hlt hb1 hb B1
      unfold lineV
      go_wp2_with fail
      go_ret
      exact ⟨rfl, B2.out.2.2.2.2.alloc B2.out.2.2.2.2.size _⟩
set_option maxHeartbeats 1000000 in
set_option maxRecDepth 100000 in
theorem specFalling (W H Z : Int) {a : Option Addr} {n c : Nat} {xs : List Int} (w : World) (hx : n ≤ 1048576) (h : IntsAt w a n xs) :
    Calls Tryz.prog 12 #[.agg #[.int .i64 W, .int .i64 H, .int .i64 Z], .slice a n c] w (QB (fallB W H Z xs) w) := by
  have C1 := Lib.hid (fun w (hi : IntsAt w a n xs) => specWeightsOk W H Z (c := c) w hx hi)
  have C2 := Lib.hid (fun w (hi : IntsAt w a n xs) => specBroken W H Z (c := c) w hx hi)
  have HI := Lib.hid h
  unfold fallB
  generalize brkL W H Z xs = r at *
  generalize wOkB W H Z xs = y at *
  clear h
  rcases r with _ | ⟨f, o, t⟩
  all_goals
    cases y
    all_goals
      go_enter Tryz.func12, Tryz.ntmps12
      go_wp2_with fail
      have B0 := Lib.hid (box_new W H Z w)
      generalize w.alloc (.cells #[.int .i64 W, .int .i64 H, .int .i64 Z] 25) = W1 at *
      obtain ⟨c0, c1, c2, hlt, hb1⟩ := B0.out
      go_wp2_with fail
      refine (C2.out _ (HI.out.later hb1)).mono ?_
      rintro e w1 ⟨rfl, hb⟩
      have B1 := Lib.hid (B0.out.later hb)
      clear c0 c1 c2 hlt hb1 hb B0
      first
        | have B2 := Lib.hid (B1.out.later ((Below.refl _ _).alloc (Nat.le_refl _) (.cells #[.int .i64 f, .int .i64 o, .int .i64 t] 46)))
        | have B2 := Lib.hid (B1.out.later ((Below.refl _ _).alloc (Nat.le_refl _) (.cells #[.int .i64 0, .int .i64 0, .int .i64 0] 46)))
      obtain ⟨c0, c1, c2, hlt, hb1⟩ := B2.out
      unfold lineV
      go_wp2_with fail
      refine (C1.out _ (HI.out.later hb1)).mono ?_
      rintro e w2 ⟨rfl, hb⟩
      have B3 := Lib.hid (B2.out.later hb)
      clear c0 c1 c2 hlt hb1 hb B1 B2
      go_wp2_with fail
      go_ret
      exact ⟨rfl, B3.out.2.2.2.2⟩
end Go.Proofs.YtllfgdcplbfdhaaGreat

namespace Go.Proofs.YtllfgdcplbfdhaaGreat
open Go.RowKit
set_option linter.unusedVariables false
set_option linter.unusedSimpArgs false
/-- The sums of lists. -/
def addAll (n : Nat) (vs : List LArg) : List Int := vs.foldl (fun acc v => addL acc v.2.2.2) (List.replicate n 0)
theorem addAll_take (n : Nat) {vs : List LArg} {k : Nat} {v : LArg} (hk : vs[k]? = some v) : addAll n (vs.take (k + 1)) = addL (addAll n (vs.take k)) v.2.2.2 := by
  unfold addAll
  rw [take_one hk, List.foldl_append]
  rfl
theorem addAll_bnd {n : Nat} {vs : List LArg} (h : ∀ (k : Nat) v, vs[k]? = some v → Bnd n 1000 v.2.2.2) : ∀ k : Nat, k ≤ vs.length → Bnd n (1000 * (k : Int)) (addAll n (vs.take k))
  | 0, _ => by simpa [addAll] using Bnd.zero n
  | k + 1, hk => by
    have hv : vs[k]? = some (vs[k]'(by omega)) := List.getElem?_eq_getElem (by omega)
    rw [addAll_take n hv]
    have := (addAll_bnd h k (by omega)).add (h k _ hv)
    rw [show 1000 * ((k + 1 : Nat) : Int) = 1000 * (k : Int) + 1000 by omega]
    exact this
theorem zero_cells (n : Nat) : (madeCells (Value.int .i64 0).cells (n * 1)).toList = iv (List.replicate n 0) := by
  rw [show (Value.int .i64 0).cells = #[.int .i64 0] from rfl]
  simp [madeCells, iv, Nat.mod_one]
  exact (List.map_const' ..).trans (by rw [List.length_range])
/-- It returns a list of ints in new memory, and a bool. -/
def OwnIvB (r : List Int × Bool) (w : World) (e : Ending) (w' : World) : Prop :=
  ∃ v, e = .returned (.tuple #[v, .bool r.2]) ∧ w'.ownsRow w.heap.size 3 1 v r.1.length (iv r.1) ∧ Below w.heap.size w w'
theorem add_no {W H Z : Int} {xs ys : List Int} (h : (wOkB W H Z xs && wOkB W H Z ys) = false) : addB W H Z xs ys = ([], false) := by unfold addB; rw [h]; rfl
theorem add_far {W H Z : Int} {xs ys : List Int} (h : wOkB W H Z (addL xs ys) = false) : addB W H Z xs ys = ([], false) := by unfold addB; rw [h, Bool.and_false]; rfl
theorem add_yes {W H Z : Int} {xs ys : List Int} (h : (wOkB W H Z xs && wOkB W H Z ys) = true) (h' : wOkB W H Z (addL xs ys) = true) : addB W H Z xs ys = (addL xs ys, true) := by unfold addB; rw [h, h']; rfl
theorem nil_own (B : Nat) (w w' : World) (h : Below w.heap.size w w') : OwnIvB ([], false) w (.returned (.tuple #[.slice none 0 0, .bool false])) w' := ⟨_, rfl, World.ownsRow_nil _ _ _ _, h⟩
end Go.Proofs.YtllfgdcplbfdhaaGreat

namespace Go.Proofs.YtllfgdcplbfdhaaGreat
open Go.RowKit
set_option linter.unusedVariables false
set_option linter.unusedSimpArgs false
/-- A list of ints that the call owns, and its length. -/
def RowI (B : Nat) (v : Value) (xs : List Int) (w : World) : Prop := w.ownsRow B 3 1 v xs.length (iv xs)
theorem closed_rowI {B : Nat} {v : Value} {xs : List Int} : Closed (RowI B v xs) := fun _ _ h k => own_below h k
end Go.Proofs.YtllfgdcplbfdhaaGreat

namespace Go.Proofs.YtllfgdcplbfdhaaGreat
open Go.RowKit
set_option linter.unusedVariables false
set_option linter.unusedSimpArgs false
theorem sum_no {W H Z P : Int} {xs : List Int} (h : (wOkB W H Z xs && posB W H Z P) = false) : sumB W H Z xs P = 0 := by unfold sumB; rw [h]; rfl
theorem sum_yes {W H Z P : Int} {xs : List Int} (h : wOkB W H Z xs = true) (h' : posB W H Z P = true) : sumB W H Z xs P = sumTo xs P.toNat xs.length := by unfold sumB; rw [h, h']; rfl
set_option maxHeartbeats 1000000 in
set_option maxRecDepth 100000 in
theorem implSum (W H Z P : Int) (hP : P ≤ 9223372036854775807) {a : Option Addr} {n c : Nat} {xs : List Int} (w : World) (hx : n ≤ 1048576) (h : IntsAt w a n xs) :
    Calls Tryz.prog 44 #[.agg #[.int .i64 W, .int .i64 H, .int .i64 Z], .slice a n c, .int .i64 P] w (QI (sumB W H Z xs P) w) := by
  have C1 := Lib.hid (fun w (hi : IntsAt w a n xs) => implWeightsOk W H Z (c := c) w hx hi)
  have HA := Lib.hid h
  cases hw : wOkB W H Z xs
  · rw [sum_no (by rw [hw]; rfl)]
    rw [hw] at C1
    clear hw h hP
    go_enter Tryz.func44, Tryz.ntmps44
    go_wp2_with fail
    have B0 := Lib.hid (box_new W H Z w)
    generalize w.alloc (.cells #[.int .i64 W, .int .i64 H, .int .i64 Z] 25) = W1 at *
    obtain ⟨c0, c1, c2, hlt, hb1⟩ := B0.out
    go_wp2_with fail
    refine (C1.out _ (HA.out.later hb1)).mono ?_
    rintro e w1 ⟨rfl, hb⟩
    have B1 := Lib.hid (B0.out.later hb)
    clear c0 c1 c2 hlt hb1 hb B0
    go_wp2_with fail
    go_ret
    exact ⟨rfl, B1.out.2.2.2.2⟩
  · cases hp : posB W H Z P
    · have C2 := Lib.hid (implPos_is hP hp)
      rw [sum_no (by rw [hw, hp]; rfl)]
      rw [hw] at C1
      clear hw h hp hP
      go_enter Tryz.func44, Tryz.ntmps44
      go_wp2_with fail
      have B0 := Lib.hid (box_new W H Z w)
      generalize w.alloc (.cells #[.int .i64 W, .int .i64 H, .int .i64 Z] 25) = W1 at *
      obtain ⟨c0, c1, c2, hlt, hb1⟩ := B0.out
      go_wp2_with fail
      refine (C1.out _ (HA.out.later hb1)).mono ?_
      rintro e w1 ⟨rfl, hb⟩
      have B1 := Lib.hid (B0.out.later hb)
      clear c0 c1 c2 hlt hb1 hb B0
      obtain ⟨c0, c1, c2, hlt, hb1⟩ := B1.out
      go_wp2_with fail
      refine (C2.out _).mono ?_
      rintro e w2 ⟨rfl, hb⟩
      have B2 := Lib.hid (B1.out.later hb)
      clear c0 c1 c2 hlt hb1 hb B1
      go_wp2_with fail
      go_ret
      exact ⟨rfl, B2.out.2.2.2.2⟩
    · have C2 := Lib.hid (implPos_is hP hp)
      rw [sum_yes hw hp]
      rw [hw] at C1
      obtain ⟨hok, hwl, hall⟩ := wOk_yes hw
      obtain ⟨N, z, p, rfl, rfl, ho, hpz⟩ := pos_yes hp
      have hn := h.1
      rw [ho.wh, hn] at hwl
      have hnN : n ≤ 49 := by have := ho.n49; omega
      have HS := Lib.hid (fun k => sumTo_le hall p k)
      have HX := Lib.hid (fun (k : Nat) (hk : k < n) => get_wAt (xs := xs) (k := k) (by rw [hn]; exact hk))
      have HB' := Lib.hid (fun k => all_wAt hall k)
      have CP := Lib.hid (fun k w (hk : k < 49) => isPeg p k hk w)
      have HE : Hid (sumTo xs (p : Int).toNat xs.length = sumTo xs p n) := by unfold Hid; rw [hn]; rfl
      rw [HE.out]
      clear hw h hp hok hall ho hpz hn hwl HE hP
      go_enter Tryz.func44, Tryz.ntmps44
      go_wp2_with fail
      have B0 := Lib.hid (box_new W H z w)
      generalize w.alloc (.cells #[.int .i64 W, .int .i64 H, .int .i64 (z : Int)] 25) = W1 at *
      obtain ⟨c0, c1, c2, hlt, hb1⟩ := B0.out
      go_wp2_with fail
      refine (C1.out _ (HA.out.later hb1)).mono ?_
      rintro e w1 ⟨rfl, hb⟩
      have B1 := Lib.hid (B0.out.later hb)
      clear c0 c1 c2 hlt hb1 hb B0
      obtain ⟨c0, c1, c2, hlt, hb1⟩ := B1.out
      go_wp2_with fail
      refine (C2.out _).mono ?_
      rintro e w2 ⟨rfl, hb⟩
      have B2 := Lib.hid (B1.out.later hb)
      clear c0 c1 c2 hlt hb1 hb B1 C1 C2
      have HA2 := Lib.hid (HA.out.later B2.out.2.2.2.2)
      go_wp2_with fail
      go_loopw [7, 22] (fun s i wr => ∃ (k : Nat) (t : Int), k ≤ n ∧ i = .int .i64 k ∧ s = .int .i64 t ∧ Hid (t = sumTo xs p k) ∧ wr = w2) (fun _ i _ => n - (intOf i).toNat)
      case atStart => exact ⟨0, 0, Nat.zero_le _, rfl, rfl, rfl, rfl⟩
      case round =>
        obtain ⟨k, t, hk, rfl, rfl, HT, rfl⟩ := hrel
        by_cases hlk : k < n
        · have k0 : (0 : Int) ≤ (k : Int) := by omega
          have k1 : (k : Int) < (n : Int) := by omega
          have hxk := HX.out k hlk
          obtain ⟨x1, x2⟩ := HB'.out k
          obtain ⟨t1, t2⟩ := HS.out k
          rw [← HT.out] at t1 t2
          have HE : Hid (sumTo xs p (k + 1) = t + (if bit p k then wAt xs k else 0)) := by rw [HT.out]; rfl
          generalize wAt xs k = x at *
          obtain ⟨b, off, rfl, hb, hc⟩ := HA2.out.cell hlk
          have c0 := hc k x hxk
          clear hc hxk
          have CK := Lib.hid (fun w => CP.out k w (by omega))
          cases hbit : bit p k
          · rw [hbit] at CK HE
            have HT' : Hid (t = sumTo xs p (k + 1)) := by unfold Hid; rw [HE.out]; simp
            clear hbit HE HT
            go_wp2_with fail
            refine (CK.out _).mono ?_
            rintro e w5 ⟨rfl, rfl⟩
            go_wp2_with fail
            go_roundw
            case rel => exact ⟨k + 1, t, by omega, by go_num, rfl, HT', trivial⟩
            case measure => simp [intOf]; omega
          · rw [hbit] at CK HE
            have HT' : Hid (t + x = sumTo xs p (k + 1)) := by unfold Hid; rw [HE.out]; simp
            clear hbit HE HT
            go_wp2_with fail
            refine (CK.out _).mono ?_
            rintro e w5 ⟨rfl, rfl⟩
            go_wp2_with fail
            go_roundw
            case rel => exact ⟨k + 1, t + x, by omega, by go_num, rfl, HT', trivial⟩
            case measure => simp [intOf]; omega
        · obtain rfl : k = n := by omega
          go_wp2_with fail
          go_ret
          exact QI.of HT.out B2.out.2.2.2.2
end Go.Proofs.YtllfgdcplbfdhaaGreat
