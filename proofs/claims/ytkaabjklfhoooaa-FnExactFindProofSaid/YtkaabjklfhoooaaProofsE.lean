/- FindProof of the program: the iterator over the weights that are tried, the loop over it. -/
import Derived.Test.YtkaabjklfhoooaaRangeSeq
import Derived.Test.YtkaabjklfhoooaaProofsB
import Derived.Test.YtkaabjklfhoooaaProofsC
import Derived.Test.YtkaabjklfhoooaaWeights
namespace Go.Proofs.Ytkaabjklfhoooaa
open Go.RowKit Go.Shelf
set_option linter.unusedVariables false
set_option linter.unusedSimpArgs false
attribute [local go_sem] Oper.semAt_some
/-- The list of round j, in memory laid from B on. -/
def HandU (W H Z : Int) (B j : Nat) (v : Value) (W' : World) : Prop := W'.ownsRow B 3 1 v (tryL W H Z j).length (iv (tryL W H Z j))
theorem handU_from {W H Z : Int} {B j : Nat} {v : Value} : OwnFrom B (fun (_ : Unit) W' => HandU W H Z B j v W') := by
  rintro s X Y row hr hg hrow
  refine World.ownsRow.kept hr hg ?_
  rcases hr.2 with ⟨rfl, _⟩ | ⟨g, cap, cur, rfl, _, hgb, _⟩
  · exact .inl rfl
  · refine .inr fun e' => ?_
    obtain ⟨-, o, ho, hc⟩ := hrow g (by simpa [Value.ownBlock] using e'.symm)
    rw [hgb] at ho; cases ho; cases hc
set_option maxRecDepth 100000 in
set_option maxHeartbeats 2000000 in
theorem implTries (W H Z : Int) (n g : Nat) (w : World) (hlt : g < w.heap.size) (hc0 : w.cell? ⟨g, 0, none⟩ = some (.int .i64 W)) (hc1 : w.cell? ⟨g, 1, none⟩ = some (.int .i64 H)) (hc2 : w.cell? ⟨g, 2, none⟩ = some (.int .i64 Z)) :
    SeqHands Fence.wide n Try.prog 50 #[.pointer (some ⟨g, 0, none⟩)] (HandU W H Z w.heap.size) 17 w := by
  intro l J Jx W' hW hJ hJx hY h0
  refine callsIn_of_wp Try.func50 rfl trivial ?_ rfl
  simp only [Try.ntmps50, List.size_toArray, List.length_cons, List.length_nil, Nat.reduceAdd, Nat.reduceSub, Array.replicate_succ, Array.replicate_zero, List.push_toArray, List.append_toArray, List.nil_append, List.cons_append]
  gi_wp2
  gi_loopw [6] (fun i wr => ∃ k : Nat, k ≤ 3 ∧ i = .int .i64 k ∧ J (k + 0) wr ∧ Below w.heap.size w wr) (fun i _ => 3 - (intOf i).toNat)
  case atStart => exact ⟨0, Nat.zero_le _, rfl, h0, hW⟩
  case round =>
    obtain ⟨k, hk, rfl, hJk, hnx⟩ := hrel
    have c0 := (hnx.cell hlt).trans hc0
    have c1 := (hnx.cell hlt).trans hc1
    have c2 := (hnx.cell hlt).trans hc2
    by_cases hlk : k < 3
    · have k1 : (k : Int) < 3 := by omega
      have k0 : (0 : Int) ≤ k := by omega
      gi_wp2
      refine ⟨trivial, (fun h => (by cases h)), ?_⟩
      refine (callsIn_wide.2 (implClassW W H Z k _)).mono ?_
      rintro e w5 ⟨v, rfl, hown, hb5⟩
      obtain ⟨fn, tmps, assign, body, hy, hR⟩ := hY (k + 0) v w5 (by omega) (hJ _ _ _ hJk hb5) (by unfold HandU; rw [Nat.add_zero, tryL_cls hlk]; exact own_base hown hnx.size)
      have hn5 := hnx.trans (hb5.mono hnx.size)
      clear hown hb5 c0 c1 c2 hnx hJk
      gi_wp2
      refine ⟨(fun h => (by cases h)), hR.mono ?_⟩
      rintro e W3 (⟨rfl, hJ3, hk3⟩ | ⟨rfl, hJx3⟩)
      · gi_wp2
        go_roundw
        case rel => exact ⟨k + 1, by omega, by go_num, by rw [show k + 1 + 0 = k + 0 + 1 by omega]; exact hJ3, hn5.trans hk3⟩
        case measure => simp [intOf]; omega
      · gi_wp2
        refine bodyPost_ret (results_none rfl _ _ _) rfl ?_
        exact ⟨⟨_, rfl⟩, .inr hJx3⟩
    · obtain rfl : k = 3 := by omega
      clear c0 c1 c2
      gi_wp2
      rw [show ((3 : Nat) : Int) = 3 from rfl]
      gi_loopw [16] (fun i wr => ∃ k : Nat, k ≤ 7 ∧ i = .int .i64 k ∧ J (k + 3) wr ∧ Below w.heap.size w wr) (fun i _ => 7 - (intOf i).toNat)
      case atStart => exact ⟨0, Nat.zero_le _, rfl, hJk, hnx⟩
      case round =>
        obtain ⟨k, hk, rfl, hJk, hnx⟩ := hrel
        have c0 := (hnx.cell hlt).trans hc0
        have c1 := (hnx.cell hlt).trans hc1
        have c2 := (hnx.cell hlt).trans hc2
        by_cases hlk : k < 7
        · have k1 : (k : Int) < 7 := by omega
          have k0 : (0 : Int) ≤ k := by omega
          gi_wp2
          refine ⟨trivial, (fun h => (by cases h)), ?_⟩
          refine (callsIn_wide.2 (implColumnW W H Z k _)).mono ?_
          rintro e w5 ⟨v, rfl, hown, hb5⟩
          obtain ⟨fn, tmps, assign, body, hy, hR⟩ := hY (k + 3) v w5 (by omega) (hJ _ _ _ hJk hb5) (by unfold HandU; rw [tryL_col hlk]; exact own_base hown hnx.size)
          have hn5 := hnx.trans (hb5.mono hnx.size)
          clear hown hb5 c0 c1 c2 hnx hJk
          gi_wp2
          refine ⟨(fun h => (by cases h)), hR.mono ?_⟩
          rintro e W3 (⟨rfl, hJ3, hk3⟩ | ⟨rfl, hJx3⟩)
          · gi_wp2
            go_roundw
            case rel => exact ⟨k + 1, by omega, by go_num, by rw [show k + 1 + 3 = k + 3 + 1 by omega]; exact hJ3, hn5.trans hk3⟩
            case measure => simp [intOf]; omega
          · gi_wp2
            refine bodyPost_ret (results_none rfl _ _ _) rfl ?_
            exact ⟨⟨_, rfl⟩, .inr hJx3⟩
        · obtain rfl : k = 7 := by omega
          clear c0 c1 c2
          gi_wp2
          rw [show ((7 : Nat) : Int) = 7 from rfl]
          gi_loopw [26] (fun i wr => ∃ k : Nat, k ≤ 7 ∧ i = .int .i64 k ∧ J (k + 10) wr ∧ Below w.heap.size w wr) (fun i _ => 7 - (intOf i).toNat)
          case atStart => exact ⟨0, Nat.zero_le _, rfl, hJk, hnx⟩
          case round =>
            obtain ⟨k, hk, rfl, hJk, hnx⟩ := hrel
            have c0 := (hnx.cell hlt).trans hc0
            have c1 := (hnx.cell hlt).trans hc1
            have c2 := (hnx.cell hlt).trans hc2
            by_cases hlk : k < 7
            · have k1 : (k : Int) < 7 := by omega
              have k0 : (0 : Int) ≤ k := by omega
              gi_wp2
              refine ⟨trivial, (fun h => (by cases h)), ?_⟩
              refine (callsIn_wide.2 (implRowW W H Z k _)).mono ?_
              rintro e w5 ⟨v, rfl, hown, hb5⟩
              obtain ⟨fn, tmps, assign, body, hy, hR⟩ := hY (k + 10) v w5 (by omega) (hJ _ _ _ hJk hb5) (by unfold HandU; rw [tryL_row hlk]; exact own_base hown hnx.size)
              have hn5 := hnx.trans (hb5.mono hnx.size)
              clear hown hb5 c0 c1 c2 hnx hJk
              gi_wp2
              refine ⟨(fun h => (by cases h)), hR.mono ?_⟩
              rintro e W3 (⟨rfl, hJ3, hk3⟩ | ⟨rfl, hJx3⟩)
              · gi_wp2
                go_roundw
                case rel => exact ⟨k + 1, by omega, by go_num, by rw [show k + 1 + 10 = k + 10 + 1 by omega]; exact hJ3, hn5.trans hk3⟩
                case measure => simp [intOf]; omega
              · gi_wp2
                refine bodyPost_ret (results_none rfl _ _ _) rfl ?_
                exact ⟨⟨_, rfl⟩, .inr hJx3⟩
            · obtain rfl : k = 7 := by omega
              clear c0 c1 c2
              gi_wp2
              go_end0
              exact ⟨⟨_, rfl⟩, .inl hJk⟩
set_option maxRecDepth 100000 in
set_option maxHeartbeats 2000000 in
theorem implToTry (W H Z : Int) (w : World) : Calls Try.prog 34 #[.agg #[.int .i64 W, .int .i64 H, .int .i64 Z]] w fun e w' => e = .returned (.func (.func 50) #[] #[.pointer (some ⟨w.heap.size, 0, none⟩)]) ∧ Box w.heap.size W H Z w w' := by
  go_enter Try.func34, Try.ntmps34
  go_wp2_with fail
  go_ret
  exact ⟨rfl, box_new W H Z w⟩
/-- The boxes of FindProof: the board, the two positions, the two results. -/
structure FindBox (s : Nat) (W H Z P G : Int) (v b : Value) (w0 w : World) : Prop where
  box : Box s W H Z w0 w
  p : w.cell? ⟨s + 1, 0, none⟩ = some (.int .i64 P)
  g : w.cell? ⟨s + 1 + 1, 0, none⟩ = some (.int .i64 G)
  list : w.heap[s + 1 + 1 + 1]? = some (.cells #[v] 24 (0, 0))
  ok : w.heap[s + 1 + 1 + 1 + 1]? = some (.cells #[b] 4 (0, 0))
theorem FindBox.lt {s : Nat} {W H Z P G : Int} {v b : Value} {w0 w : World} (h : FindBox s W H Z P G v b w0 w) : s + 1 + 1 + 1 + 1 < w.heap.size := (Array.getElem?_eq_some_iff.1 h.ok).1
theorem FindBox.grown {s : Nat} {W H Z P G : Int} {v b : Value} {w0 w w' : World} {B : Nat} (h : FindBox s W H Z P G v b w0 w) (hs : w0.heap.size ≤ s) (hB : s + 1 + 1 + 1 + 1 < B) (hb : Below B w w') : FindBox s W H Z P G v b w0 w' :=
  ⟨h.box.kept hb (by omega) (by omega), (hb.cell (p := ⟨s + 1, 0, none⟩) (show s + 1 < _ by omega)).trans h.p, (hb.cell (p := ⟨s + 1 + 1, 0, none⟩) (show s + 1 + 1 < _ by omega)).trans h.g, (hb.block _ (by omega)).trans h.list, (hb.block _ hB).trans h.ok⟩
theorem find_new (W H Z P G : Int) (w : World) : FindBox w.heap.size W H Z P G (.slice none 0 0) (.bool false) w (((((w.alloc (.cells #[.int .i64 W, .int .i64 H, .int .i64 Z] 26)).alloc (.cells #[.int .i64 P] 3)).alloc (.cells #[.int .i64 G] 3)).alloc (.cells #[.slice none 0 0] 24)).alloc (.cells #[.bool false] 4)) := by
  have B := box_new W H Z w
  have s1 : (w.alloc (.cells #[.int .i64 W, .int .i64 H, .int .i64 Z] 26)).heap.size = w.heap.size + 1 := by simp
  generalize w.alloc (.cells #[.int .i64 W, .int .i64 H, .int .i64 Z] 26) = w1 at *
  have n2 := heap_alloc_new w1 (.cells #[.int .i64 P] 3)
  have b2 := (Below.refl _ w1).alloc (Nat.le_refl _) (.cells #[.int .i64 P] 3)
  have s2 : (w1.alloc (.cells #[.int .i64 P] 3)).heap.size = w.heap.size + 1 + 1 := by simp [s1]
  rw [s1] at n2
  generalize w1.alloc (.cells #[.int .i64 P] 3) = w2 at *
  have n3 := heap_alloc_new w2 (.cells #[.int .i64 G] 3)
  have b3 := (Below.refl _ w2).alloc (Nat.le_refl _) (.cells #[.int .i64 G] 3)
  have s3 : (w2.alloc (.cells #[.int .i64 G] 3)).heap.size = w.heap.size + 1 + 1 + 1 := by simp [s2]
  rw [s2] at n3
  generalize w2.alloc (.cells #[.int .i64 G] 3) = w3 at *
  have n4 := heap_alloc_new w3 (.cells #[.slice none 0 0] 24)
  have b4 := (Below.refl _ w3).alloc (Nat.le_refl _) (.cells #[.slice none 0 0] 24)
  have s4 : (w3.alloc (.cells #[.slice none 0 0] 24)).heap.size = w.heap.size + 1 + 1 + 1 + 1 := by simp [s3]
  rw [s3] at n4
  generalize w3.alloc (.cells #[.slice none 0 0] 24) = w4 at *
  have n5 := heap_alloc_new w4 (.cells #[.bool false] 4)
  have b5 := (Below.refl _ w4).alloc (Nat.le_refl _) (.cells #[.bool false] 4)
  rw [s4] at n5
  generalize w4.alloc (.cells #[.bool false] 4) = w5 at *
  have h2 := (b3.block _ (by omega)).trans n2
  have h2 := (b4.block _ (by omega)).trans h2
  have h2 := (b5.block _ (by omega)).trans h2
  have h3 := (b4.block _ (by omega)).trans n3
  have h3 := (b5.block _ (by omega)).trans h3
  have h4 := (b5.block _ (by omega)).trans n4
  exact ⟨(((B.later b2).later b3).later b4).later b5, by rw [cell_of_row _ _ _ _ _ _ h2]; rfl, by rw [cell_of_row _ _ _ _ _ _ h3]; rfl, h4, n5⟩
theorem own_from {B C n : Nat} {v : Value} {xs : List Value} {X Y : World} {row : Option Nat} (hr : X.ownsRow C 3 1 v n xs) (hg : X.grownBy Y row) (hrow : ∀ r, row = some r → B ≤ r ∧ ∃ o : Obj, X.heap[r]? = some o ∧ o.isCells = false) : Y.ownsRow C 3 1 v n xs := by
  refine World.ownsRow.kept hr hg ?_
  rcases hr.2 with ⟨rfl, _⟩ | ⟨g, cap, cur, rfl, _, hgb, _⟩
  · exact .inl rfl
  · refine .inr fun e' => ?_
    obtain ⟨-, o, ho, hc⟩ := hrow g (by simpa [Value.ownBlock] using e'.symm)
    rw [hgb] at ho; cases ho; cases hc
theorem own_set {B n b : Nat} {v u : Value} {xs : List Value} {X : World} (hr : X.ownsRow B 3 1 v n xs) (hb : b < B) : (X.setCell ⟨b, 0, none⟩ u).ownsRow B 3 1 v n xs := by
  refine World.ownsRow.kept hr (grownBy_setCell' X b u) ?_
  rcases hr.2 with ⟨rfl, _⟩ | ⟨g, cap, cur, rfl, hg, _⟩
  · exact .inl rfl
  · refine .inr fun e' => ?_
    obtain rfl : g = b := by simpa [Value.ownBlock] using e'
    omega
/-- What holds when a round has returned: the two results lie in their boxes. -/
def FindEnd (W H Z P G : Int) (w W' : World) : Prop := ∃ (j : Nat) (v : Value), j < 17 ∧ (∀ i, i < j → proofB W H Z (tryL W H Z i) P G = false) ∧ proofB W H Z (tryL W H Z j) P G = true ∧
  W'.ownsRow w.heap.size 3 1 v (tryL W H Z j).length (iv (tryL W H Z j)) ∧ W'.cell? ⟨w.heap.size + 1 + 1 + 1, 0, none⟩ = some v ∧ W'.cell? ⟨w.heap.size + 1 + 1 + 1 + 1, 0, none⟩ = some (.bool true) ∧ Below w.heap.size w W'
theorem findEnd_from {W H Z P G : Int} {w : World} {B : Nat} (hB : w.heap.size ≤ B) : OwnFrom B (fun (_ : Unit) W' => FindEnd W H Z P G w W') := by
  rintro s X Y row ⟨j, v, h1, h2, h3, h4, h5, h6, h7⟩ hg hrow
  exact ⟨j, v, h1, h2, h3, own_from h4 hg hrow, cell_kept h5 hg (fun r e => (hrow r e).2), cell_kept h6 hg (fun r e => (hrow r e).2), ownFrom_below (β := Unit) (Nat.le_refl _) hB () X Y row h7 hg hrow⟩
set_option maxRecDepth 100000 in
set_option maxHeartbeats 2000000 in
theorem implFind (W H Z P G : Int) (hP : P ≤ 9223372036854775807) (hG : G ≤ 9223372036854775807) (w : World) :
    Calls Try.prog 18 #[.agg #[.int .i64 W, .int .i64 H, .int .i64 Z], .int .i64 P, .int .i64 G] w (OwnIvB (findB W H Z P G) w) := by
  have C1 := Lib.hid (fun (xs : List Int) (a : Option Addr) (n c : Nat) (w : World) (hn : n ≤ 1048576) (hi : IntsAt w a n xs) => implProof W H Z P G hP hG (c := c) w hn hi)
  have HNo := Lib.hid (first_no (W := W) (H := H) (Z := Z) (P := P) (G := G))
  have HAt := Lib.hid (fun j (hj : j < 17) => first_at (W := W) (H := H) (Z := Z) (P := P) (G := G) hj)
  generalize findB W H Z P G = r at *
  refine (callsIn_wide (n := 9)).1 ?_
  refine callsIn_of_wp_marks Try.func18 rfl trivial ?_ rfl
  simp only [Try.ntmps18, List.size_toArray, List.length_cons, List.length_nil, Nat.reduceAdd, Nat.reduceSub, Array.replicate_succ, Array.replicate_zero, List.push_toArray, List.append_toArray, List.nil_append, List.cons_append]
  have F0 := Lib.hid (find_new W H Z P G w)
  gi_wp2
  refine ⟨trivial, ?_⟩
  generalize ((((w.alloc (.cells #[.int .i64 W, .int .i64 H, .int .i64 Z] 26)).alloc (.cells #[.int .i64 P] 3)).alloc (.cells #[.int .i64 G] 3)).alloc (.cells #[.slice none 0 0] 24)).alloc (.cells #[.bool false] 4) = W1 at *
  refine (callsIn_wide.2 (implToTry W H Z _)).mono ?_
  rintro e w2 ⟨rfl, hB2⟩
  have F2 := Lib.hid (F0.out.grown (Nat.le_refl _) F0.out.lt hB2.2.2.2.2)
  have hlt2 := hB2.2.2.2.1
  have hsz := F0.out.lt
  generalize W1.heap.size = q at *
  gi_wp2
  obtain ⟨b0, b1, b2, -, hbw⟩ := hB2
  have h5 : w.heap.size + 1 + 1 + 1 + 1 < w2.heap.size := F2.out.lt
  refine wpIn_hands rfl (by omega) (gf := 50) (lb := #[.pointer (some ⟨q, 0, none⟩)]) rfl trivial (enters_of Try.func50 (by kernel_rfl) rfl)
    (implTries W H Z _ q w2 hlt2 b0 b1 b2) (fun _ _ => handU_from) rfl
    (fun j W' => (∀ i, i < j → proofB W H Z (tryL W H Z i) P G = false) ∧ Below w2.heap.size w2 W')
    (FindEnd W H Z P G w)
    (fun s A B row hs hg hr => ⟨hs.1, ownFrom_below (β := Unit) (Nat.le_refl _) (Nat.le_refl _) () A B row hs.2 hg hr⟩)
    (findEnd_from (by omega))
    ⟨fun i hi => absurd hi (Nat.not_lt_zero _), Below.refl _ _⟩
    (fun v => { tmps := #[.agg #[.int .i64 W, .int .i64 H, .int .i64 Z], .int .i64 P, .int .i64 G, .pointer (some ⟨w.heap.size, 0, none⟩), .pointer (some ⟨w.heap.size + 1, 0, none⟩), .pointer (some ⟨w.heap.size + 1 + 1, 0, none⟩), .pointer (some ⟨w.heap.size + 1 + 1 + 1, 0, none⟩), .pointer (some ⟨w.heap.size + 1 + 1 + 1 + 1, 0, none⟩), v, .agg #[.int .i64 W, .int .i64 H, .int .i64 Z], .func (.func 50) #[] #[.pointer (some ⟨q, 0, none⟩)], v, undef, undef, undef, undef, undef, undef], defers := [] }) ?assign ?body ?done ?stop
  case assign =>
    intro l v W' K hK
    gi_wp2
    exact hK
  case body =>
    rintro l j v W' hj ⟨hno, hbl⟩ hu hsz
    obtain ⟨ga, gc, rfl⟩ := int_form hu
    have HI := ints_own hu rfl
    have F3 := F2.out.grown (Nat.le_refl _) h5 hbl
    have CW := C1.out (tryL W H Z j) ga _ gc W' (by have := tryL_le W H Z j; omega) HI
    obtain ⟨⟨c0, c1, c2, -, hbw3⟩, cp, cg, cl, co⟩ := F3
    have hsl := Boxed.lt cl
    have hso := Boxed.lt co
    cases hpr : proofB W H Z (tryL W H Z j) P G
    · rw [hpr] at CW
      gi_wp2
      refine ⟨trivial, ?_⟩
      refine (CallsIn.inRound l (callsIn_wide.2 CW)).mono ?_
      rintro e w5 ⟨rfl, hb5⟩
      gi_wp2
      exact ⟨Stays.of_below hb5, hb5.mono hsz, fun i hi => by
        by_cases e : i = j
        · subst e; exact hpr
        · exact hno i (by omega), hbl.trans (hb5.mono hsz)⟩
    · rw [hpr] at CW
      gi_wp2
      refine ⟨trivial, ?_⟩
      refine (CallsIn.inRound l (callsIn_wide.2 CW)).mono ?_
      rintro e w5 ⟨rfl, hb5⟩
      have cl5 := (hb5.block _ hsl).trans cl
      have co5 := (hb5.block _ hso).trans co
      have l0 := Boxed.cell cl5
      have l1 := Boxed.frozen cl5
      have o0 := Boxed.cell co5
      have o1 := Boxed.frozen co5
      have HE : Hid (∀ W9, W9 = (w5.setCell ⟨w.heap.size + 1 + 1 + 1, 0, none⟩ (.slice ga (tryL W H Z j).length gc)).setCell ⟨w.heap.size + 1 + 1 + 1 + 1, 0, none⟩ (.bool true) → Stays w2.heap.size W' W9 ∧ FindEnd W H Z P G w W9) := by
        rintro W9 rfl
        have hb4 := Boxed.set (.slice ga (tryL W H Z j).length gc) cl5
        have ho4 := Boxed.other co5 (show w.heap.size + 1 + 1 + 1 + 1 ≠ w.heap.size + 1 + 1 + 1 by omega) (.slice ga (tryL W H Z j).length gc)
        refine ⟨⟨by simp; exact hb5.size, fun k hk hlt => (Below.heap_setCell _ _ _ k (show k ≠ w.heap.size + 1 + 1 + 1 + 1 by omega)).trans ((Below.heap_setCell _ _ _ k (show k ≠ w.heap.size + 1 + 1 + 1 by omega)).trans (hb5.block k hlt))⟩, j, _, hj, hno, hpr, own_base (own_set (own_set (own_below hu hb5) (by omega)) (by omega)) (by omega), Boxed.cell (Boxed.other hb4 (show w.heap.size + 1 + 1 + 1 ≠ w.heap.size + 1 + 1 + 1 + 1 by omega) _), Boxed.cell (Boxed.set _ ho4), set_below (set_below (hbw3.trans (hb5.mono hbw3.size)) (by omega)) (by omega)⟩
      clear hu HI
      gi_wp2
      exact HE.out _ rfl
  case done =>
    rintro D W' hD ⟨hno, hbl⟩ hK
    have F3 := F2.out.grown (Nat.le_refl _) h5 hbl
    obtain ⟨⟨c0, c1, c2, -, hbw3⟩, cp, cg, cl, co⟩ := F3
    have l0 := Boxed.cell cl
    have l1 := Boxed.frozen cl
    have o0 := Boxed.cell co
    have o1 := Boxed.frozen co
    have HE : Hid (∀ W9, W9 = (W'.setCell ⟨w.heap.size + 1 + 1 + 1, 0, none⟩ (.slice none 0 0)).setCell ⟨w.heap.size + 1 + 1 + 1 + 1, 0, none⟩ (.bool false) → W9.cell? ⟨w.heap.size + 1 + 1 + 1, 0, none⟩ = some (.slice none 0 0) ∧ W9.cell? ⟨w.heap.size + 1 + 1 + 1 + 1, 0, none⟩ = some (.bool false) ∧ W9.heap[D]? = some (.deferred (some [])) ∧ Below w.heap.size w W9) := by
      rintro W9 rfl
      have hb4 := Boxed.set (.slice none 0 0) cl
      have ho4 := Boxed.other co (show w.heap.size + 1 + 1 + 1 + 1 ≠ w.heap.size + 1 + 1 + 1 by omega) (.slice none 0 0)
      exact ⟨Boxed.cell (Boxed.other hb4 (show w.heap.size + 1 + 1 + 1 ≠ w.heap.size + 1 + 1 + 1 + 1 by omega) _), Boxed.cell (Boxed.set _ ho4), (Below.heap_setCell _ _ _ D (show D ≠ w.heap.size + 1 + 1 + 1 + 1 by omega)).trans ((Below.heap_setCell _ _ _ D (show D ≠ w.heap.size + 1 + 1 + 1 by omega)).trans hK), set_below (set_below hbw3 (by omega)) (by omega)⟩
    gi_wp2
    obtain ⟨l9, o9, hK9, hb9⟩ := HE.out _ rfl
    generalize (W'.setCell ⟨w.heap.size + 1 + 1 + 1, 0, none⟩ (.slice none 0 0)).setCell ⟨w.heap.size + 1 + 1 + 1 + 1, 0, none⟩ (.bool false) = W9 at *
    have l10 := cell_kept l9 (grownBy_putObj' _ D (.deferred none)) (fun r e => by cases e; exact ⟨_, hK9, rfl⟩)
    have o10 := cell_kept o9 (grownBy_putObj' _ D (.deferred none)) (fun r e => by cases e; exact ⟨_, hK9, rfl⟩)
    refine ⟨by simp, .inl ⟨_, _, rfl, run_takeDeferred hK9, ?_⟩⟩
    refine ⟨.tuple #[.slice none 0 0, .bool false], by simp [results, Try.results18, go_sem, l10, o10], ?_⟩
    rw [HNo.out hno]
    exact ⟨_, rfl, World.ownsRow_nil _ _ _ _, hb9.trans (below_put _ _ (by omega) hK9)⟩
  case stop =>
    rintro D W' hD ⟨j, v, h1, h2, h3, h4, e5, e6, h7⟩ hK
    gi_wp2
    have l10 := cell_kept e5 (grownBy_putObj' _ D (.deferred none)) (fun r e => by cases e; exact ⟨_, hK, rfl⟩)
    have o10 := cell_kept e6 (grownBy_putObj' _ D (.deferred none)) (fun r e => by cases e; exact ⟨_, hK, rfl⟩)
    refine ⟨by simp, .inl ⟨_, _, rfl, run_takeDeferred hK, ?_⟩⟩
    refine ⟨.tuple #[v, .bool true], by simp [results, Try.results18, go_sem, l10, o10], ?_⟩
    rw [HAt.out j h1 h2 h3]
    exact ⟨_, rfl, ownsRow_putObj h4 _ hK rfl, h7.trans (below_put _ _ (by omega) hK)⟩
end Go.Proofs.Ytkaabjklfhoooaa
