/- Sums of weights: addLists, AddWeights and SumOf of the program, AddWeights and SumOf of the model. Of lists of at most 1048576 ints. -/
import Derived.Test.YtdeciglcfabgpaaWeightsA
import Derived.Test.YtdeciglcfabgpaaLinesAll
namespace Go.Proofs.Ytdeciglcfabgpaa
open Go.RowKit
set_option linter.unusedVariables false
set_option linter.unusedSimpArgs false
/-- The sums of lists. -/
def addAll (n : Nat) (vs : List LArg) : List Int := vs.foldl (fun acc v => addL acc v.2.2.2) (List.replicate n 0)
theorem addAll_take (n : Nat) {vs : List LArg} {k : Nat} {v : LArg} (hk : vs[k]? = some v) : addAll n (vs.take (k + 1)) = addL (addAll n (vs.take k)) v.2.2.2 := by
  unfold addAll
  rw [take_one hk, List.foldl_append]
  rfl
theorem addAll_bnd {n : Nat} {vs : List LArg} (h : ∀ (k : Nat) v, vs[k]? = some v → Bnd n 1000 v.2.2.2) : ∀ k : Nat, k ≤ vs.length → Bnd n (1000 * (k : Int)) (addAll n (vs.take k))
  | 0, _ => by simpa [addAll] using Bnd.zero n
  | k + 1, hk => by
    have hv : vs[k]? = some (vs[k]'(by omega)) := List.getElem?_eq_getElem (by omega)
    rw [addAll_take n hv]
    have := (addAll_bnd h k (by omega)).add (h k _ hv)
    rw [show 1000 * ((k + 1 : Nat) : Int) = 1000 * (k : Int) + 1000 by omega]
    exact this
theorem zero_cells (n : Nat) : (madeCells (Value.int .i64 0).cells (n * 1)).toList = iv (List.replicate n 0) := by
  rw [show (Value.int .i64 0).cells = #[.int .i64 0] from rfl]
  simp [madeCells, iv, Nat.mod_one]
  exact (List.map_const' ..).trans (by rw [List.length_range])
set_option maxHeartbeats 2000000 in
set_option maxRecDepth 100000 in
theorem implAddLists {N g m c : Nat} {vs : List LArg} (w : World) (hN : N ≤ 1048576) (hm : m ≤ 1000) (h : ListsAt w g m vs) (hv : ∀ (k : Nat) v, vs[k]? = some v → Bnd N 1000 v.2.2.2) :
    Calls Try.prog 43 #[.int .i64 N, .slice (some ⟨g, 0, none⟩) m c] w (OwnIv (addAll N vs) w) := by
  obtain ⟨i0, hi, hz0, hz1, hz2⟩ : ∃ i, Try.prog.info? 3 = some i ∧ i.zero = some (.int .i64 0) ∧ i.size = 1 ∧ i.bytes = 8 := ⟨_, by rfl, by rfl, by rfl, by rfl⟩
  obtain ⟨w3, hmk, hrow, hg3⟩ := run_make_full (P := Try.prog) w w.heap.size 26 3 i0 (.int .i64 0) 1 Try.underlying26 hi hz0 hz1 .i64 .i64 N (by rw [hz2]; omega) (by unfold maxLen; omega) (Nat.le_refl _)
  have HB3 : Hid (Below w.heap.size w w3) := ⟨hg3.os, hg3.tape, hg3.output, hg3.size, fun j hj => hg3.block j hj (by simp)⟩
  have HL := Lib.hid h.1
  have hgl := h.2.1
  have HV := Lib.hid h.2.2
  have HBD : Hid (∀ k : Nat, k ≤ m → Bnd N (1000 * (k : Int)) (addAll N (vs.take k))) := fun k hk => addAll_bnd hv k (by rw [h.1]; exact hk)
  have HVB := Lib.hid hv
  have hm0 : (madeCells (Value.int .i64 0).cells (N * 1)).toList = iv (addAll N (vs.take 0)) := zero_cells N
  rw [hm0] at hrow
  have HR := Lib.hid hrow
  clear hrow hg3 hm0 h hv
  obtain ⟨q, hq⟩ : ∃ q, w.heap.size = q := ⟨_, rfl⟩
  rw [hq] at hmk HB3 HR hgl
  have HQ := Lib.hid hq
  clear hq
  go_enter Try.func43, Try.ntmps43
  go_wp2_with fail
  clear hmk
  go_loopw [14] (fun i wr => ∃ k : Nat, k ≤ m ∧ i = .int .i64 k ∧ Hid (wr.ownsRow q 3 1 (.slice (some ⟨q, 0, none⟩) N N) N (iv (addAll N (vs.take k)))) ∧ Hid (Below q w wr)) (fun i _ => m - (intOf i).toNat)
  case atStart => exact ⟨0, Nat.zero_le _, rfl, HR, HB3⟩
  case round =>
    clear HR HB3
    obtain ⟨k, hk, rfl, HO, HW⟩ := hrel
    by_cases hlk : k < m
    · have k0 : (0 : Int) ≤ (k : Int) := by omega
      have k1 : (k : Int) < (m : Int) := by omega
      obtain ⟨⟨a, n, cp, xs⟩, hxk⟩ : ∃ l, vs[k]? = some l := ⟨_, List.getElem?_eq_getElem (by rw [HL.out]; exact hlk)⟩
      obtain ⟨d0', hI, hn⟩ := HV.out k _ hxk
      simp only at d0' hI hn
      have d0 := (HW.out.cell hgl).trans d0'
      have HB := Lib.hid (HBD.out k hk)
      have HX : Hid (Bnd N 1000 xs) := HVB.out k _ hxk
      obtain rfl : n = N := by rw [← hI.1]; exact HX.out.1
      have HI := Lib.hid hI
      have HE := Lib.hid (addAll_take n hxk)
      simp only at HE
      generalize addAll n (vs.take k) = acc at *
      have HS := Lib.hid (HB.out.add HX.out)
      have HO2 : Hid (wr.ownsRow q 3 1 (.slice (some ⟨q, 0, none⟩) n n) n (iv ((addL acc xs).take 0 ++ acc.drop 0))) := by unfold Hid; simpa using HO.out
      clear hxk d0' hI HO
      go_wp2_with fail
      clear d0
      go_loopw [20] (fun i wr => ∃ j : Nat, j ≤ n ∧ i = .int .i64 j ∧ Hid (wr.ownsRow q 3 1 (.slice (some ⟨q, 0, none⟩) n n) n (iv ((addL acc xs).take j ++ acc.drop j))) ∧ Hid (Below q w wr)) (fun i _ => n - (intOf i).toNat)
      case atStart => exact ⟨0, Nat.zero_le _, rfl, HO2, HW⟩
      case round =>
        clear HO2 HW
        obtain ⟨j, hj, rfl, HO, HW⟩ := hrel
        by_cases hlj : j < n
        · have j0 : (0 : Int) ≤ (j : Int) := by omega
          have j1 : (j : Int) < (n : Int) := by omega
          obtain ⟨x, hx⟩ : ∃ x, acc[j]? = some x := ⟨_, List.getElem?_eq_getElem (by rw [HB.out.1]; exact hlj)⟩
          obtain ⟨y, hy⟩ : ∃ y, xs[j]? = some y := ⟨_, List.getElem?_eq_getElem (by rw [HX.out.1]; exact hlj)⟩
          obtain ⟨x1, x2⟩ := HB.out.2 j x hx
          obtain ⟨y1, y2⟩ := HX.out.2 j y hy
          have hxy := get_addL hx hy
          obtain ⟨b, off, rfl, hb, hcc⟩ := HI.out.cell hlj
          rw [HQ.out] at hb
          have c0 := (HW.out.cell hb).trans (hcc j y hy)
          have hAj : ((addL acc xs).take j).length = j := by rw [List.length_take, HS.out.1]; omega
          have d0 : wr.cell? ⟨q, j, none⟩ = some (.int .i64 x) := own_cell HO.out j hlj _ (by
            unfold iv
            rw [List.getElem?_map, List.getElem?_append_right (by omega), hAj, Nat.sub_self, List.getElem?_drop, Nat.add_zero, hx]
            rfl)
          have f0 := HO.out.frozenAt j
          have hqs : q ≤ wr.heap.size := by rw [← HQ.out]; exact HW.out.size
          have hst := HO.out.stored j (.int .i64 (x + y))
          rw [put_int (addL acc xs) acc HB.out.1 HS.out.1 hxy] at hst
          have HST := Lib.hid hst.1
          have HWT := Lib.hid (HW.out.grown hst.2 hqs (fun j hj => by cases hj; exact Nat.le_refl _))
          clear hx hy hxy hcc hAj hst HO HW hqs
          go_wp2_with fail
          go_roundw
          case rel => exact ⟨j + 1, by omega, by go_num, HST, HWT⟩
          case measure => simp [intOf]; omega
        · obtain rfl : j = n := by omega
          have HO3 : Hid (wr.ownsRow q 3 1 (.slice (some ⟨q, 0, none⟩) j j) j (iv (addAll j (vs.take (k + 1))))) := by
            have := HO.out
            rw [List.drop_of_length_le (by rw [HB.out.1]; exact Nat.le_refl _), List.append_nil, List.take_of_length_le (by rw [HS.out.1]; exact Nat.le_refl _)] at this
            unfold Hid
            rw [HE.out]; exact this
          clear HO
          go_wp2_with fail
          go_roundw
          case rel => exact ⟨k + 1, by omega, by go_num, HO3, HW⟩
          case measure => simp [intOf]; omega
    · obtain rfl : k = m := by omega
      have hp : Hid (OwnIv (addAll N vs) w (.returned (.slice (some ⟨q, 0, none⟩) N N)) wr) := by
        have hl := (HBD.out k (Nat.le_refl _)).1
        have := HO.out
        rw [List.take_of_length_le (by rw [HL.out]; exact Nat.le_refl _)] at this hl
        refine ⟨_, rfl, ?_, ?_⟩
        · rw [hl, HQ.out]; exact this
        · rw [HQ.out]; exact HW.out
      clear HO HW
      go_wp2_with fail
      go_ret
      exact hp.out
/-- It returns a list of ints in new memory, and a bool. -/
def OwnIvB (r : List Int × Bool) (w : World) (e : Ending) (w' : World) : Prop :=
  ∃ v, e = .returned (.tuple #[v, .bool r.2]) ∧ w'.ownsRow w.heap.size 3 1 v r.1.length (iv r.1) ∧ Below w.heap.size w w'
theorem add_no {W H Z : Int} {xs ys : List Int} (h : (wOkB W H Z xs && wOkB W H Z ys) = false) : addB W H Z xs ys = ([], false) := by unfold addB; rw [h]; rfl
theorem add_far {W H Z : Int} {xs ys : List Int} (h : wOkB W H Z (addL xs ys) = false) : addB W H Z xs ys = ([], false) := by unfold addB; rw [h, Bool.and_false]; rfl
theorem add_yes {W H Z : Int} {xs ys : List Int} (h : (wOkB W H Z xs && wOkB W H Z ys) = true) (h' : wOkB W H Z (addL xs ys) = true) : addB W H Z xs ys = (addL xs ys, true) := by unfold addB; rw [h, h']; rfl
theorem nil_own (B : Nat) (w w' : World) (h : Below w.heap.size w w') : OwnIvB ([], false) w (.returned (.tuple #[.slice none 0 0, .bool false])) w' := ⟨_, rfl, World.ownsRow_nil _ _ _ _, h⟩
set_option maxHeartbeats 2000000 in
set_option maxRecDepth 100000 in
theorem implAddWeights (W H Z : Int) {a a' : Option Addr} {n c n' c' : Nat} {xs ys : List Int} (w : World) (hx : n ≤ 1048576) (h : IntsAt w a n xs) (hy : n' ≤ 1048576) (h' : IntsAt w a' n' ys) :
    Calls Try.prog 17 #[.agg #[.int .i64 W, .int .i64 H, .int .i64 Z], .slice a n c, .slice a' n' c'] w (OwnIvB (addB W H Z xs ys) w) := by
  have HA := Lib.hid h
  have HA' := Lib.hid h'
  have C1 := Lib.hid (fun (w : World) (g : Nat) (hv : ListsAt w g 2 [(a, n, c, xs), (a', n', c', ys)]) => implAreWeights W H Z (c := 2) w (by omega) hv)
  rw [show (okB W H Z && argsB (W * H) [(a, n, c, xs), (a', n', c', ys)]) = (wOkB W H Z xs && wOkB W H Z ys) by simp only [wOkB, argsB, List.all_cons, List.all_nil, Bool.and_true]; cases okB W H Z <;> simp] at C1
  cases hw : (wOkB W H Z xs && wOkB W H Z ys)
  · rw [add_no hw]
    rw [hw] at C1
    clear hw h h'
    go_enter Try.func17, Try.ntmps17
    go_wp2_with fail
    have B0 := Lib.hid (box_new W H Z w)
    have hS : (w.alloc (.cells #[.int .i64 W, .int .i64 H, .int .i64 Z] 25)).heap.size = w.heap.size + 1 := by simp
    generalize w.alloc (.cells #[.int .i64 W, .int .i64 H, .int .i64 Z] 25) = W1 at *
    obtain ⟨c0, c1, c2, hlt, hb1⟩ := B0.out
    have HL := Lib.hid (lists_two (T := 26) (c := c) (c' := c') (HA.out.later hb1) hx (HA'.out.later hb1) hy)
    rw [hS] at HL
    have B1 := Lib.hid (B0.out.later ((Below.refl _ _).alloc (Nat.le_refl _) (.cells #[.slice a n c, .slice a' n' c'] 26)))
    clear hS
    go_wp2_with fail
    refine (C1.out _ _ HL.out).mono ?_
    rintro e w1 ⟨rfl, hb⟩
    have B2 := Lib.hid (B1.out.later hb)
    clear c0 c1 c2 hlt hb1 hb B0 B1 HL
    go_wp2_with fail
    go_ret2
    exact nil_own 0 _ _ B2.out.2.2.2.2
  · have hw2 := hw
    rw [Bool.and_eq_true] at hw2
    obtain ⟨hok, hl1, hall1⟩ := wOk_yes hw2.1
    obtain ⟨-, hl2, hall2⟩ := wOk_yes hw2.2
    obtain ⟨N, z, rfl, ho⟩ := ok_of hok
    rw [ho.wh] at hl1 hl2
    have b1 : Bnd N 1000 xs := ⟨by omega, fun k x hk => all_get hall1 hk⟩
    have b2 : Bnd N 1000 ys := ⟨by omega, fun k x hk => all_get hall2 hk⟩
    have hsl := (b1.add b2).1
    have h49 := ho.n49
    have C2 := Lib.hid (fun w => implSize W H z w N ho.wh ho.n49)
    have C3 := Lib.hid (fun (w : World) (g : Nat) (hv : ListsAt w g 2 [(a, n, c, xs), (a', n', c', ys)]) => implAddLists (N := N) (c := 2) w (by omega) (by omega) hv (fun k v hk => by
      have hlt := (List.getElem?_eq_some_iff.1 hk).1
      simp at hlt
      obtain rfl | rfl : k = 0 ∨ k = 1 := by omega
      · cases hk; exact b1
      · cases hk; exact b2))
    rw [show addAll N [(a, n, c, xs), (a', n', c', ys)] = addL xs ys by show addL (addL (List.replicate N 0) xs) ys = _; rw [addL_zero b1.1]] at C3
    have C4 := Lib.hid (fun (w : World) (g gc : Nat) (ga : Option Addr) (hv : ListsAt w g 1 [(ga, N, gc, addL xs ys)]) => implAreWeights W H z (c := 1) w (by omega) hv)
    have e4 : ∀ (ga : Option Addr) (gc : Nat), (okB W H (z : Int) && argsB (W * H) [(ga, N, gc, addL xs ys)]) = wOkB W H z (addL xs ys) := fun ga gc => by simp [wOkB, argsB]
    simp only [e4] at C4
    rw [hw] at C1
    have HR : Hid (∀ y, wOkB W H z (addL xs ys) = y → addB W H z xs ys = if y then (addL xs ys, true) else ([], false)) := fun y hy => by
      cases y
      · exact add_far hy
      · exact add_yes hw hy
    generalize addB W H z xs ys = r at *
    generalize addL xs ys = zs at *
    obtain ⟨y, hyy⟩ : ∃ y, wOkB W H z zs = y := ⟨_, rfl⟩
    rw [hyy] at C4
    have HE := Lib.hid (HR.out y hyy)
    have HSL := Lib.hid hsl
    have hN20 : N ≤ 1048576 := by omega
    clear hw hw2 h h' hok hl1 hall1 hl2 hall2 ho b1 b2 e4 HR hyy hsl
    go_enter Try.func17, Try.ntmps17
    go_wp2_with fail
    have B0 := Lib.hid (box_new W H z w)
    have hS : (w.alloc (.cells #[.int .i64 W, .int .i64 H, .int .i64 (z : Int)] 25)).heap.size = w.heap.size + 1 := by simp
    generalize w.alloc (.cells #[.int .i64 W, .int .i64 H, .int .i64 (z : Int)] 25) = W1 at *
    obtain ⟨c0, c1, c2, hlt, hb1⟩ := B0.out
    have HL := Lib.hid (lists_two (T := 26) (c := c) (c' := c') (HA.out.later hb1) hx (HA'.out.later hb1) hy)
    rw [hS] at HL
    have B1 := Lib.hid (B0.out.later ((Below.refl _ _).alloc (Nat.le_refl _) (.cells #[.slice a n c, .slice a' n' c'] 26)))
    clear hS
    go_wp2_with fail
    refine (C1.out _ _ HL.out).mono ?_
    rintro e w1 ⟨rfl, hb⟩
    have B2 := Lib.hid (B1.out.later hb)
    clear c0 c1 c2 hlt hb1 hb B0 B1 HL C1
    obtain ⟨c0, c1, c2, hlt, hb1⟩ := B2.out
    go_wp2_with fail
    refine (C2.out _).mono ?_
    rintro e w2 ⟨rfl, hb⟩
    have B3 := Lib.hid (B2.out.later hb)
    clear c0 c1 c2 hlt hb1 hb B2
    have hb1 := B3.out.2.2.2.2
    have HL := Lib.hid (lists_two (T := 26) (c := c) (c' := c') (HA.out.later hb1) hx (HA'.out.later hb1) hy)
    have B4 := Lib.hid (B3.out.later ((Below.refl _ _).alloc (Nat.le_refl _) (.cells #[.slice a n c, .slice a' n' c'] 26)))
    have hq : w.heap.size ≤ (w2.alloc (.cells #[.slice a n c, .slice a' n' c'] 26)).heap.size := B4.out.2.2.2.2.size
    clear hb1 B3
    go_wp2_with fail
    generalize w2.alloc (.cells #[.slice a n c, .slice a' n' c'] 26) = W4 at *
    refine (C3.out _ _ HL.out).mono ?_
    rintro e w5 ⟨v, rfl, hown, hb⟩
    rw [HSL.out] at hown
    have hown := own_base hown hq
    obtain ⟨ga, gc, rfl⟩ := int_form hown
    have B5 := Lib.hid (B4.out.later hb)
    have HO5 := Lib.hid hown
    clear B4 hb HL hq hown
    have HI5 := Lib.hid (ints_own HO5.out HSL.out)
    have HL5 := Lib.hid (lists_one (T := 26) (c := gc) HI5.out hN20)
    have hbl : Below w5.heap.size w5 (w5.alloc (.cells #[.slice ga N gc] 26)) := (Below.refl _ _).alloc (Nat.le_refl _) _
    have B6 := Lib.hid (B5.out.later hbl)
    have HO6 := Lib.hid (own_below HO5.out hbl)
    obtain ⟨c0, c1, c2, hlt, hb1⟩ := B5.out
    clear hbl HI5 HO5
    go_wp2_with fail
    refine (C4.out _ _ _ _ HL5.out).mono ?_
    rintro e w7 ⟨rfl, hb⟩
    have B7 := Lib.hid (B6.out.later hb)
    have HO7 := Lib.hid (own_below HO6.out hb)
    clear c0 c1 c2 hlt hb1 hb B5 B6 HO6 HL5
    cases y
    · have hp : Hid (OwnIvB r w (.returned (.tuple #[.slice none 0 0, .bool false])) w7) := by
        unfold Hid
        rw [HE.out]
        exact nil_own 0 _ _ B7.out.2.2.2.2
      clear HO7 HE
      go_wp2_with fail
      go_ret2
      exact hp.out
    · have hp : Hid (OwnIvB r w (.returned (.tuple #[.slice ga N gc, .bool true])) w7) := by
        unfold Hid
        rw [HE.out]
        exact ⟨_, rfl, by simpa [HSL.out] using HO7.out, B7.out.2.2.2.2⟩
      clear HO7 HE
      go_wp2_with fail
      go_ret2
      exact hp.out
end Go.Proofs.Ytdeciglcfabgpaa
