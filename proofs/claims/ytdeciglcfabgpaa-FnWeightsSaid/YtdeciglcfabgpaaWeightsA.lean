/- Whether lists are weights: areInWeightRange, areWeights, WeightsOk of the program and WeightsOk of the model. Of lists of at most 1048576 ints. -/
import Derived.Test.YtdeciglcfabgpaaWeightMath
import Derived.Test.YtdeciglcfabgpaaIntArgs
import Derived.Test.YtdeciglcfabgpaaPegsAll
namespace Go.Proofs.Ytdeciglcfabgpaa
open Go.RowKit
set_option linter.unusedVariables false
set_option linter.unusedSimpArgs false
set_option maxHeartbeats 1000000 in
set_option maxRecDepth 100000 in
theorem implInRange {a : Option Addr} {n c : Nat} {xs : List Int} (w : World) (hx : n ≤ 1048576) (h : IntsAt w a n xs) :
    Calls Try.prog 58 #[.slice a n c] w (QB (xs.all inW) w) := by
  have HN := Lib.hid h.1
  have HA := Lib.hid h
  have HY : Hid ((∀ (k : Nat) x, xs[k]? = some x → inW x = true) → xs.all inW = true) := fun hh => all_of hh
  have HF : Hid (∀ (k : Nat) x, xs[k]? = some x → inW x = false → xs.all inW = false) := fun k x hk hh => all_not hk hh
  generalize xs.all inW = R at *
  clear h
  go_enter Try.func58, Try.ntmps58
  go_wp2_with fail
  go_loopw [7] (fun i wr => ∃ k : Nat, k ≤ n ∧ i = .int .i64 k ∧ wr = w ∧ Hid (∀ (j : Nat) x, j < k → xs[j]? = some x → inW x = true)) (fun i _ => n - (intOf i).toNat)
  case atStart => exact ⟨0, Nat.zero_le _, rfl, rfl, fun j x hj => absurd hj (Nat.not_lt_zero _)⟩
  case round =>
    obtain ⟨k, hk, rfl, rfl, HD⟩ := hrel
    by_cases hlt : k < n
    · have h0 : (0 : Int) ≤ (k : Int) := by omega
      have h1 : (k : Int) < (n : Int) := by omega
      obtain ⟨x, hxk⟩ : ∃ l, xs[k]? = some l := ⟨_, List.getElem?_eq_getElem (by rw [HN.out]; exact hlt)⟩
      obtain ⟨b, off, rfl, hb, hc⟩ := HA.out.cell hlt
      have c0 := hc k x hxk
      clear hc
      cases hw : inW x
      · have HE := Lib.hid (HF.out k x hxk hw)
        have hno := inW_no hw
        by_cases h2 : x < -1000
        · clear hxk hw hno
          go_wp2_with fail
          go_ret
          exact QB.of HE.out.symm (Below.refl _ _)
        · have h3 : 1000 < x := by omega
          clear hxk hw hno
          go_wp2_with fail
          go_ret
          exact QB.of HE.out.symm (Below.refl _ _)
      · have HD' : Hid (∀ (j : Nat) x, j < k + 1 → xs[j]? = some x → inW x = true) := fun j y hj hy => by
          by_cases e : j = k
          · subst e; rw [hxk] at hy; cases hy; exact hw
          · exact HD.out j y (by omega) hy
        obtain ⟨h4, h5⟩ := inW_iff.1 hw
        have h2 : ¬ x < -1000 := by omega
        have h3 : ¬ 1000 < x := by omega
        clear hxk hw h4 h5 HD
        go_wp2_with fail
        go_roundw
        case rel => exact ⟨k + 1, by omega, by go_num, trivial, HD'⟩
        case measure => simp [intOf]; omega
    · obtain rfl : k = n := by omega
      have HE : Hid (R = true) := HY.out fun j x hj => HD.out j x (by rw [← HN.out]; exact (List.getElem?_eq_some_iff.1 hj).1) hj
      clear HD
      go_wp2_with fail
      go_ret
      exact QB.of HE.out.symm (Below.refl _ _)
/-- A list that was handed over among others: its slice and what it holds. -/
abbrev LArg := Option Addr × Nat × Nat × List Int
/-- A slice of slices of ints. -/
def ListsAt (w : World) (g m : Nat) (vs : List LArg) : Prop :=
  vs.length = m ∧ g < w.heap.size ∧ ∀ (j : Nat) v, vs[j]? = some v → w.cell? ⟨g, j, none⟩ = some (.slice v.1 v.2.1 v.2.2.1) ∧ IntsAt w v.1 v.2.1 v.2.2.2 ∧ v.2.1 ≤ 1048576
theorem ListsAt.later {w w' : World} {g m : Nat} {vs : List LArg} (h : ListsAt w g m vs) (hb : Below w.heap.size w w') : ListsAt w' g m vs := by
  refine ⟨h.1, Nat.lt_of_lt_of_le h.2.1 hb.size, fun j v hj => ?_⟩
  obtain ⟨h1, h2, h3⟩ := h.2.2 j v hj
  exact ⟨(hb.cell h.2.1).trans h1, h2.later hb, h3⟩
theorem lists_one {w : World} {a : Option Addr} {n c : Nat} {xs : List Int} {T : TypeId} (h : IntsAt w a n xs) (hx : n ≤ 1048576) : ListsAt (w.alloc (.cells #[.slice a n c] T)) w.heap.size 1 [(a, n, c, xs)] := by
  have hb : Below w.heap.size w (w.alloc (.cells #[.slice a n c] T)) := (Below.refl _ _).alloc (Nat.le_refl _) _
  refine ⟨rfl, by simp, fun j v hj => ?_⟩
  have hlt := (List.getElem?_eq_some_iff.1 hj).1
  simp at hlt
  subst hlt
  simp at hj
  subst hj
  refine ⟨?_, h.later hb, hx⟩
  rw [cell_of_row _ _ _ _ _ _ (heap_alloc_new w _)]
  rfl
theorem lists_two {w : World} {a a' : Option Addr} {n c n' c' : Nat} {xs ys : List Int} {T : TypeId} (h : IntsAt w a n xs) (hx : n ≤ 1048576) (h' : IntsAt w a' n' ys) (hy : n' ≤ 1048576) :
    ListsAt (w.alloc (.cells #[.slice a n c, .slice a' n' c'] T)) w.heap.size 2 [(a, n, c, xs), (a', n', c', ys)] := by
  have hb : Below w.heap.size w (w.alloc (.cells #[.slice a n c, .slice a' n' c'] T)) := (Below.refl _ _).alloc (Nat.le_refl _) _
  refine ⟨rfl, by simp, fun j v hj => ?_⟩
  have hlt := (List.getElem?_eq_some_iff.1 hj).1
  simp at hlt
  obtain rfl | rfl : j = 0 ∨ j = 1 := by omega
  · simp at hj
    subst hj
    refine ⟨?_, h.later hb, hx⟩
    rw [cell_of_row _ _ _ _ _ _ (heap_alloc_new w _)]
    rfl
  · simp at hj
    subst hj
    refine ⟨?_, h'.later hb, hy⟩
    rw [cell_of_row _ _ _ _ _ _ (heap_alloc_new w _)]
    rfl
def argsB (n : Int) (vs : List LArg) : Bool := vs.all fun v => wtsB n v.2.2.2
theorem args_all {n : Int} {vs : List LArg} (h : ∀ (k : Nat) v, vs[k]? = some v → wtsB n v.2.2.2 = true) : argsB n vs = true := by
  unfold argsB
  rw [List.all_eq_true]
  intro x hx
  obtain ⟨k, hk⟩ := List.mem_iff_getElem?.1 hx
  exact h k x hk
theorem args_not {n : Int} {vs : List LArg} {k : Nat} {v : LArg} (hk : vs[k]? = some v) (h : wtsB n v.2.2.2 = false) : argsB n vs = false := by
  rw [← Bool.not_eq_true]
  intro hh
  unfold argsB at hh
  rw [List.all_eq_true] at hh
  rw [hh v (List.mem_of_getElem? hk)] at h
  cases h
set_option maxHeartbeats 1000000 in
set_option maxRecDepth 100000 in
theorem implAreWeights (W H Z : Int) {g m c : Nat} {vs : List LArg} (w : World) (hm : m ≤ 1000) (h : ListsAt w g m vs) :
    Calls Try.prog 42 #[.agg #[.int .i64 W, .int .i64 H, .int .i64 Z], .slice (some ⟨g, 0, none⟩) m c] w (QB (okB W H Z && argsB (W * H) vs) w) := by
  cases hok : okB W H Z
  · have C1 := Lib.hid (implOk_no hok)
    clear hok h
    go_enter Try.func42, Try.ntmps42
    go_wp2_with fail
    have B0 := Lib.hid (box_new W H Z w)
    generalize w.alloc (.cells #[.int .i64 W, .int .i64 H, .int .i64 Z] 25) = W1 at *
    obtain ⟨c0, c1, c2, hlt, hb1⟩ := B0.out
    go_wp2_with fail
    refine (C1.out _).mono ?_
    rintro e w1 ⟨rfl, hb⟩
    have B1 := Lib.hid (B0.out.later hb)
    clear c0 c1 c2 hlt hb1 hb B0
    go_wp2_with fail
    go_ret
    exact ⟨rfl, B1.out.2.2.2.2⟩
  · obtain ⟨N, z, rfl, ho⟩ := ok_of hok
    have hN := ho.wh
    have C1 := Lib.hid (implOk_yes ho)
    have C2 := Lib.hid (fun w => implSize W H z w N ho.wh ho.n49)
    have h49 := ho.n49
    rw [show (true && argsB (W * H) vs) = argsB (W * H) vs from rfl, hN]
    have HY : Hid ((∀ (k : Nat) v, vs[k]? = some v → wtsB N v.2.2.2 = true) → argsB N vs = true) := fun hh => args_all hh
    have HF : Hid (∀ (k : Nat) v, vs[k]? = some v → wtsB N v.2.2.2 = false → argsB N vs = false) := fun k x hk hh => args_not hk hh
    have HV := Lib.hid h.1
    have HA := Lib.hid (h.later ((Below.refl _ _).alloc (Nat.le_refl _) (.cells #[.int .i64 W, .int .i64 H, .int .i64 (z : Int)] 25)))
    generalize argsB N vs = R at *
    clear hok h ho hN
    go_enter Try.func42, Try.ntmps42
    go_wp2_with fail
    have B0 := Lib.hid (box_new W H z w)
    generalize w.alloc (.cells #[.int .i64 W, .int .i64 H, .int .i64 (z : Int)] 25) = W1 at *
    obtain ⟨c0, c1, c2, hlt, hb1⟩ := B0.out
    go_wp2_with fail
    refine (C1.out _).mono ?_
    rintro e w1 ⟨rfl, hb⟩
    have B1 := Lib.hid (B0.out.later hb)
    have A1 := Lib.hid (HA.out.later hb)
    clear c0 c1 c2 hlt hb1 hb B0 HA C1
    go_wp2_with fail
    go_loopw [12] (fun i wr => ∃ k : Nat, k ≤ m ∧ i = .int .i64 k ∧ Hid (ListsAt wr g m vs) ∧ Hid (Box w.heap.size W H z w wr) ∧ Hid (∀ (j : Nat) v, j < k → vs[j]? = some v → wtsB N v.2.2.2 = true)) (fun i _ => m - (intOf i).toNat)
    case atStart => exact ⟨0, Nat.zero_le _, rfl, A1, B1, fun j x hj => absurd hj (Nat.not_lt_zero _)⟩
    case round =>
      clear A1 B1
      obtain ⟨k, hk, rfl, HA, HB, HD⟩ := hrel
      obtain ⟨c0, c1, c2, hlt, hb1⟩ := HB.out
      by_cases hlk : k < m
      · have h0 : (0 : Int) ≤ (k : Int) := by omega
        have h1 : (k : Int) < (m : Int) := by omega
        obtain ⟨⟨a, n, cp, xs⟩, hxk⟩ : ∃ l, vs[k]? = some l := ⟨_, List.getElem?_eq_getElem (by rw [HV.out]; exact hlk)⟩
        obtain ⟨d0, hI, hn⟩ := HA.out.2.2 k _ hxk
        simp only at d0 hI hn
        have HI := Lib.hid hI
        have hlen := hI.1
        have HF' := HF.out k _ hxk
        simp only [wtsB, hlen] at HF'
        by_cases hnN : n = N
        · have e1 : ¬ ((n : Int) ≠ (N : Int)) := by omega
          have e2 : (n : Int) = (N : Int) := by omega
          have C3 := Lib.hid (fun w (hi : IntsAt w a n xs) => implInRange (c := cp) w hn hi)
          cases hall : xs.all inW
          · have HE : Hid (R = false) := HF' (by simp [hall])
            rw [hall] at C3
            clear HF' hxk hI hall e2
            go_wp2_with fail
            refine (C2.out _).mono ?_
            rintro e w5 ⟨rfl, hb5⟩
            have HB5 := Lib.hid (HB.out.later hb5)
            have HI5 := Lib.hid (HI.out.later hb5)
            clear HB HI HA c0 c1 c2 hlt hb1 hb5 d0
            subst hnN
            go_wp2_with fail
            refine (C3.out _ HI5.out).mono ?_
            rintro e w6 ⟨rfl, hb6⟩
            have HB6 := Lib.hid (HB5.out.later hb6)
            clear HB5 HI5 hb6
            go_wp2_with fail
            go_ret
            exact QB.of HE.out.symm HB6.out.2.2.2.2
          · have HD' : Hid (∀ (j : Nat) v, j < k + 1 → vs[j]? = some v → wtsB N v.2.2.2 = true) := fun j y hj hy => by
              by_cases e : j = k
              · subst e; rw [hxk] at hy; cases hy; simp [wtsB, hlen, hall, e2]
              · exact HD.out j y (by omega) hy
            rw [hall] at C3
            clear HF' hxk hI hall e2 HD
            go_wp2_with fail
            refine (C2.out _).mono ?_
            rintro e w5 ⟨rfl, hb5⟩
            have HB5 := Lib.hid (HB.out.later hb5)
            have HI5 := Lib.hid (HI.out.later hb5)
            have HA5 := Lib.hid (HA.out.later hb5)
            clear HB HI HA c0 c1 c2 hlt hb1 hb5 d0
            subst hnN
            go_wp2_with fail
            refine (C3.out _ HI5.out).mono ?_
            rintro e w6 ⟨rfl, hb6⟩
            have HB6 := Lib.hid (HB5.out.later hb6)
            have HA6 := Lib.hid (HA5.out.later hb6)
            clear HB5 HI5 HA5 hb6
            go_wp2_with fail
            go_roundw
            case rel => exact ⟨k + 1, by omega, by go_num, HA6, HB6, HD'⟩
            case measure => simp [intOf]; omega
        · have e1 : ¬ (n : Int) = (N : Int) := by omega
          have HE : Hid (R = false) := HF' (by simp [e1])
          clear HF' hxk hI
          go_wp2_with fail
          refine (C2.out _).mono ?_
          rintro e w5 ⟨rfl, hb5⟩
          have HB5 := Lib.hid (HB.out.later hb5)
          clear HB HI HA c0 c1 c2 hlt hb1 hb5 d0
          go_wp2_with fail
          go_ret
          exact QB.of HE.out.symm HB5.out.2.2.2.2
      · obtain rfl : k = m := by omega
        have HE : Hid (R = true) := HY.out fun j x hj => HD.out j x (by rw [← HV.out]; exact (List.getElem?_eq_some_iff.1 hj).1) hj
        clear HD HA
        go_wp2_with fail
        go_ret
        exact QB.of HE.out.symm hb1
set_option maxHeartbeats 1000000 in
set_option maxRecDepth 100000 in
theorem implWeightsOk (W H Z : Int) {a : Option Addr} {n c : Nat} {xs : List Int} (w : World) (hx : n ≤ 1048576) (h : IntsAt w a n xs) :
    Calls Try.prog 18 #[.agg #[.int .i64 W, .int .i64 H, .int .i64 Z], .slice a n c] w (QB (wOkB W H Z xs) w) := by
  have C1 := Lib.hid (fun (w : World) (g : Nat) (hv : ListsAt w g 1 [(a, n, c, xs)]) => implAreWeights W H Z (c := 1) w (by omega) hv)
  have e1 : (okB W H Z && argsB (W * H) [(a, n, c, xs)]) = wOkB W H Z xs := by simp [wOkB, argsB]
  rw [e1] at C1
  clear e1
  have HA := Lib.hid (h.later ((Below.refl _ _).alloc (Nat.le_refl _) (.cells #[.int .i64 W, .int .i64 H, .int .i64 Z] 25)))
  clear h
  go_enter Try.func18, Try.ntmps18
  go_wp2_with fail
  have B0 := Lib.hid (box_new W H Z w)
  have hS : (w.alloc (.cells #[.int .i64 W, .int .i64 H, .int .i64 Z] 25)).heap.size = w.heap.size + 1 := by simp
  generalize w.alloc (.cells #[.int .i64 W, .int .i64 H, .int .i64 Z] 25) = W1 at *
  obtain ⟨c0, c1, c2, hlt, hb1⟩ := B0.out
  have HL := Lib.hid (lists_one (T := 26) (c := c) HA.out hx)
  rw [hS] at HL
  clear hS
  have B1 := Lib.hid (B0.out.later ((Below.refl _ _).alloc (Nat.le_refl _) (.cells #[.slice a n c] 26)))
  clear HA
  go_wp2_with fail
  refine (C1.out _ _ HL.out).mono ?_
  rintro e w1 ⟨rfl, hb⟩
  have B2 := Lib.hid (B1.out.later hb)
  clear c0 c1 c2 hlt hb1 hb B0 B1 HL
  go_wp2_with fail
  go_ret
  exact ⟨rfl, B2.out.2.2.2.2⟩
set_option maxHeartbeats 1000000 in
set_option maxRecDepth 100000 in
theorem specWeightsOk (W H Z : Int) {a : Option Addr} {n c : Nat} {xs : List Int} (w : World) (hx : n ≤ 1048576) (h : IntsAt w a n xs) :
    Calls Try.prog 19 #[.agg #[.int .i64 W, .int .i64 H, .int .i64 Z], .slice a n c] w (QB (wOkB W H Z xs) w) := by
  have HN := Lib.hid h.1
  have HA := Lib.hid (h.later ((Below.refl _ _).alloc (Nat.le_refl _) (.cells #[.int .i64 W, .int .i64 H, .int .i64 Z] 25)))
  have HF : Hid (∀ (k : Nat) x, xs[k]? = some x → inW x = false → wOkB W H Z xs = false) := fun k x hk hh => by simp [wOkB, wtsB, all_not hk hh]
  have HY : Hid ((∀ (k : Nat) x, xs[k]? = some x → inW x = true) → wOkB W H Z xs = (okB W H Z && decide ((n : Int) = W * H))) := fun hh => by simp [wOkB, wtsB, all_of hh, h.1]
  have CI := Lib.hid (fun x w => specIn x (-1000) 1000 w)
  generalize wOkB W H Z xs = R at *
  clear h
  go_enter Try.func19, Try.ntmps19
  go_wp2_with fail
  have B0 := Lib.hid (box_new W H Z w)
  generalize w.alloc (.cells #[.int .i64 W, .int .i64 H, .int .i64 Z] 25) = W1 at *
  go_loopw [5] (fun i wr => ∃ k : Nat, k ≤ n ∧ i = .int .i64 k ∧ wr = W1 ∧ Hid (∀ (j : Nat) x, j < k → xs[j]? = some x → inW x = true)) (fun i _ => n - (intOf i).toNat)
  case atStart => exact ⟨0, Nat.zero_le _, rfl, rfl, fun j x hj => absurd hj (Nat.not_lt_zero _)⟩
  case round =>
    obtain ⟨k, hk, rfl, rfl, HD⟩ := hrel
    by_cases hlt : k < n
    · have h0 : (0 : Int) ≤ (k : Int) := by omega
      have h1 : (k : Int) < (n : Int) := by omega
      obtain ⟨x, hxk⟩ : ∃ l, xs[k]? = some l := ⟨_, List.getElem?_eq_getElem (by rw [HN.out]; exact hlt)⟩
      obtain ⟨b, off, rfl, hb, hc⟩ := HA.out.cell hlt
      have c0 := hc k x hxk
      clear hc
      have CX := Lib.hid (CI.out x)
      cases hw : inW x
      · have HE := Lib.hid (HF.out k x hxk hw)
        rw [show inB x (-1000) 1000 = false from hw] at CX
        clear hxk hw
        go_wp2_with fail
        refine (CX.out _).mono ?_
        rintro e w5 ⟨rfl, rfl⟩
        go_wp2_with fail
        go_ret
        exact QB.of HE.out.symm B0.out.2.2.2.2
      · have HD' : Hid (∀ (j : Nat) x, j < k + 1 → xs[j]? = some x → inW x = true) := fun j y hj hy => by
          by_cases e : j = k
          · subst e; rw [hxk] at hy; cases hy; exact hw
          · exact HD.out j y (by omega) hy
        rw [show inB x (-1000) 1000 = true from hw] at CX
        clear hxk hw HD
        go_wp2_with fail
        refine (CX.out _).mono ?_
        rintro e w5 ⟨rfl, rfl⟩
        go_wp2_with fail
        go_roundw
        case rel => exact ⟨k + 1, by omega, by go_num, trivial, HD'⟩
        case measure => simp [intOf]; omega
    · obtain rfl : k = n := by omega
      have HE : Hid (R = (okB W H Z && decide ((k : Int) = W * H))) := HY.out fun j x hj => HD.out j x (by rw [← HN.out]; exact (List.getElem?_eq_some_iff.1 hj).1) hj
      clear HD HY HF
      obtain ⟨c0, c1, c2, hlt', hb1⟩ := B0.out
      cases hok : okB W H Z
      · have C1 := Lib.hid (specOk_no hok)
        have HE' : Hid (R = false) := by unfold Hid; rw [HE.out, hok]; rfl
        clear HE hok
        go_wp2_with fail
        refine (C1.out _).mono ?_
        rintro e w5 ⟨rfl, hb⟩
        have B5 := Lib.hid (B0.out.later hb)
        clear c0 c1 c2 hlt' hb1 hb B0
        go_wp2_with fail
        go_ret
        exact QB.of HE'.out.symm B5.out.2.2.2.2
      · obtain ⟨N, z, rfl, ho⟩ := ok_of hok
        have hN := ho.wh
        have h49 := ho.n49
        have C1 := Lib.hid (specOk_yes ho)
        rw [hok, hN] at HE
        clear hok ho
        go_wp2_with fail
        refine (C1.out _).mono ?_
        rintro e w5 ⟨rfl, hb⟩
        have B5 := Lib.hid (B0.out.later hb)
        clear c0 c1 c2 hlt' hb1 hb B0
        obtain ⟨c0, c1, c2, hlt', hb1⟩ := B5.out
        by_cases hkN : (k : Int) = (N : Int)
        · have HE' : Hid (R = true) := by unfold Hid; rw [HE.out]; simp [hkN]
          clear HE
          go_wp2_with fail
          go_ret
          exact QB.of HE'.out.symm hb1
        · have HE' : Hid (R = false) := by unfold Hid; rw [HE.out]; simp [hkN]
          clear HE
          go_wp2_with fail
          go_ret
          exact QB.of (by rw [HE'.out]; simp [hkN]) hb1
end Go.Proofs.Ytdeciglcfabgpaa
