/- TurnGame of both, UndoAll of the program (by TurnGame) over a list of lines; copy of a whole list of wide elements. Of lists of at most 1048576 lines. Complements in numbers: the holes of a board that a position leaves open; a game turned leads from the complement of its end to that of its start. Of no program. OtherOf, IsComplement of both: otherB, complB, for every board and every ints. CanTurn of both: canB, over a list of lines. Of lists of at most 1048576 lines. SameJumps of the model over two equal lists of lines. Of lists of at most 1048576 lines. -/
import Derived.Test.YtpdhdogllejdbaaGames
import Derived.Laws.CopyRow
namespace Go.Proofs.Ytpdhdogllejdbaa
open Go.RowKit
set_option linter.unusedVariables false
set_option linter.unusedSimpArgs false
/-- copy of a whole list of wide elements: both lists have n elements. -/
theorem run_copy_owned {P : Program} {w : World} (dT sT ty elem : TypeId) (size : Nat) (hu : P.underlying dT = some (.slice elem)) (hs : (P.info? elem).map (·.size) = some size) {b B g n cap gc : Nat} {e e' : TypeId} {ga : Option Addr} {xs0 xs : List Value}
    (hd : w.ownsRow b e size (.slice (some ⟨g, 0, none⟩) n cap) n xs0) (hsrc : w.ownsRow B e' size (.slice ga n gc) n xs) (h1 : ∀ v ∈ xs, v.oneCell' = true) :
    ∃ w', (Builtin.copy_ #[dT, sT] ty #[.slice (some ⟨g, 0, none⟩) n cap, .slice ga n gc]).run P w = .ok (goInt n) w' ∧ w'.ownsRow b e size (.slice (some ⟨g, 0, none⟩) n cap) n xs ∧ w.grownBy w' (some g) := by
  cases hq : P.info? elem with
  | none => simp [hq] at hs
  | some i =>
    have hi : i.size = size := by simpa [hq] using hs
    have hl := hsrc.1
    rcases hd.2 with ⟨h', _⟩ | ⟨g', cap', cur, h', hb, hg, hnc, hcm, hcs, htake⟩
    · simp at h'
    · simp only [Value.slice.injEq, Option.some.injEq, Addr.mk.injEq, and_true, true_and] at h'
      obtain ⟨rfl, rfl⟩ := h'
      have hsz : xs.length ≤ cur.size := by rw [hl, hcs]; exact Nat.mul_le_mul_right _ hnc
      have hst := run_storeCells_at P g 0 e xs 0 cur w hg (by simpa using hsz) h1
      refine ⟨_, ?_, ⟨hl, .inr ⟨g, cap, _, rfl, hb, setRow_heap w g cur (cur.toList.take (0 + 0) ++ xs ++ cur.toList.drop (0 + 0 + xs.length)).toArray e _ hg, hnc, hcm, ?_, ?_⟩⟩, ⟨rfl, rfl, rfl, by simp [World.setRow], fun k _ hk => setRow_other w g k _ (fun e => hk (by simp [e]))⟩⟩
      · rcases hsrc.2 with ⟨h2, rfl⟩ | ⟨gs, cs, curs, h2, -⟩
        · injection h2 with e1 e2 e3
          subst e1
          obtain rfl : xs = [] := List.eq_nil_of_length_eq_zero (by rw [hl]; simp)
          simp [Builtin.copy_, run_underlying hu, Builtin.lenOf, Builtin.firstCells, sizeOf, typeInfo, hq, hi, hst]
        · injection h2 with e1 e2 e3
          subst e1
          have hc := run_loadCells_list (P := P) w ⟨gs, 0, none⟩ xs (hsrc.cells rfl)
          rw [hl] at hc
          simp [Builtin.copy_, run_underlying hu, Builtin.lenOf, Builtin.firstCells, sizeOf, typeInfo, hq, hi, hc, hst]
      · simp; omega
      · rw [← hl]; simp
theorem wpList_copy_full {P : Program} {w : World} {ops : Array Oper} {rest : List Oper} {o : Oper} {a : Act} {Q : Exit → Act → World → Prop} (hgd : o.guard = none) (d s : Operand) (dT sT : TypeId)
    (ho : o.op = .call { callee := .builtin .copy, args := #[d, s], argTypes := #[dT, sT] }) (elem : TypeId) (hu : P.underlying dT = some (.slice elem)) (size : Nat) (hsz : (P.info? elem).map (·.size) = some size)
    {b B g n cap gc : Nat} {e e' : TypeId} {ga : Option Addr} {xs0 xs : List Value} (hd : a.eval d = .slice (some ⟨g, 0, none⟩) n cap) (hs : a.eval s = .slice ga n gc)
    (hdo : w.ownsRow b e size (.slice (some ⟨g, 0, none⟩) n cap) n xs0) (hso : w.ownsRow B e' size (.slice ga n gc) n xs) (h1 : ∀ v ∈ xs, v.oneCell' = true)
    (h : ∀ w', w'.ownsRow b e size (.slice (some ⟨g, 0, none⟩) n cap) n xs → w.grownBy w' (some g) → wpList P ops Q rest (a.put o.dst (goInt n)) w') : wpList P ops Q (o :: rest) a w := by
  refine wpList_plain hgd fun K hK => ?_
  obtain ⟨w', hrun, h2, h3⟩ := run_copy_owned (P := P) dT sT o.type elem size hu hsz hdo hso h1
  unfold Oper.wp
  simp [execOp, ho, resolve, invoke, builtin, hd, hs, hrun, Result.andThen]
  exact hK _ _ (h w' h2 h3)
/-- A guard for a law inside the walk: the goal is a list of operations. -/
theorem at_list {P : Program} {w : World} {ops : Array Oper} {rest : List Oper} {o : Oper} {a : Act} {Q : Exit → Act → World → Prop} (h : wpList P ops Q (o :: rest) a w) : wpList P ops Q (o :: rest) a w := h
set_option maxHeartbeats 1000000 in
set_option maxRecDepth 100000 in
theorem implTurnGame (xs : List Ln) {n B gc : Nat} {ga : Option Addr} (hn : xs.length = n) (hx : n ≤ 1048576) (w : World) (ho : w.ownsRow B 31 3 (.slice ga n gc) n (lv xs)) :
    Calls Try.prog 57 #[.slice ga n gc] w (OwnLines xs.reverse w) := by
  obtain ⟨i0, hi, hz0, hz1, hz2⟩ : ∃ i, Try.prog.info? 31 = some i ∧ i.zero = some (.agg #[.int .i64 0, .int .i64 0, .int .i64 0]) ∧ i.size = 3 ∧ i.bytes = 24 := ⟨_, by rfl, by rfl, by rfl, by rfl⟩
  obtain ⟨w3, hmk, hrow, hg3⟩ := run_make_full (P := Try.prog) w w.heap.size 27 31 i0 (.agg #[.int .i64 0, .int .i64 0, .int .i64 0]) 3 Try.underlying27 hi hz0 hz1 .i64 .i64 n (by rw [hz2]; omega) (by unfold maxLen; omega) (Nat.le_refl _)
  have C2 : Hid (∀ {B' gc : Nat} {ga : Option Addr} w, w.ownsRow B' 31 3 (.slice ga n gc) n (lv xs) → Calls Try.prog 109 #[.slice ga n gc] w (LReversed B' n xs (.slice ga n gc) w)) := fun w ho => reverseLines xs hn hx w ho
  have HB3 : Hid (Below w.heap.size w w3) := ⟨hg3.os, hg3.tape, hg3.output, hg3.size, fun j hj => hg3.block j hj (by simp)⟩
  have HX := Lib.hid (own_below ho HB3.out)
  have HR := Lib.hid hrow
  have HN : Hid (xs.reverse.length = n) := by unfold Hid; rw [List.length_reverse, hn]
  obtain ⟨q, hq⟩ : ∃ q, w.heap.size = q := ⟨_, rfl⟩
  have hqs : q ≤ w3.heap.size := by rw [← hq]; exact HB3.out.size
  have HQ := Lib.hid hq
  rw [hq] at hmk HB3 HR
  clear hrow hg3 ho hn hq
  go_enter Try.func57, Try.ntmps57
  go_wp2_with (with_reducible refine at_list ?_; refine wpList_copy_full rfl (.tmp 7) (.tmp 8) 27 27 rfl 31 Try.underlying27 3 (by simp [hi, hz1]) rfl rfl HR.out HX.out (lv_cells xs) ?_; intro w4 hown hgrow)
  have H4 := Lib.hid hown
  have B4 := Lib.hid (HB3.out.grown hgrow hqs (fun j hj => by cases hj; exact Nat.le_refl _))
  have hqs4 : q ≤ w4.heap.size := Nat.le_trans hqs hgrow.size
  clear hown hgrow HB3 HR HX hmk
  go_wp2_with fail
  refine (C2.out _ H4.out).mono ?_
  rintro e w5 ⟨rfl, hh, hg⟩
  have HF : Hid (OwnLines xs.reverse w (.returned (.slice (some ⟨q, 0, none⟩) n n)) w5) := by
    refine ⟨_, rfl, ?_, ?_⟩
    · rw [HN.out, HQ.out]; exact hh
    · rw [HQ.out]; exact B4.out.grown hg hqs4 (fun j hj => by cases hj; exact Nat.le_refl _)
  clear hh hg H4 B4
  go_wp2_with fail
  go_ret
  exact HF.out
set_option maxHeartbeats 1000000 in
set_option maxRecDepth 100000 in
theorem implUnplay (W H Z P : Int) (hP : P ≤ 9223372036854775807) (xs : List Ln) {n B gc : Nat} {ga : Option Addr} (hn : xs.length = n) (hx : n ≤ 1048576) (w : World) (ho : w.ownsRow B 31 3 (.slice ga n gc) n (lv xs)) :
    Calls Try.prog 45 #[.agg #[.int .i64 W, .int .i64 H, .int .i64 Z], .int .i64 P, .slice ga n gc] w (QP (unplayB W H Z P xs) w) := by
  have hnr : xs.reverse.length = n := by rw [List.length_reverse, hn]
  have C1 : Hid (∀ w, w.ownsRow B 31 3 (.slice ga n gc) n (lv xs) → Calls Try.prog 57 #[.slice ga n gc] w (OwnLines xs.reverse w)) := fun w ho => implTurnGame xs hn hx w ho
  have C3 : Hid (∀ {B' gc : Nat} {ga : Option Addr} w, w.ownsRow B' 31 3 (.slice ga n gc) n (lv xs.reverse) → Calls Try.prog 104 #[.agg #[.int .i64 W, .int .i64 H, .int .i64 Z], .int .i64 P, .slice ga n gc, .func (.func 37) #[] #[]] w (QP (unplayB W H Z P xs) w)) := fun w ho =>
    implPerform _ (backB W H Z) W H Z P hP xs.reverse (fun Q f o t hQ w => implBack W H Z Q f o t hQ w) (fun Q l h => by obtain ⟨x, hx, hb⟩ := back_big h; rw [hx]; omega) (.inr rfl) hnr hx w ho
  have HO := Lib.hid ho
  have HN := Lib.hid hnr
  generalize unplayB W H Z P xs = R at *
  clear hP hn hx ho hnr
  go_enter Try.func45, Try.ntmps45
  go_wp2_with fail
  have B0 := Lib.hid (box_newT 25 W H Z w)
  have HO0 := Lib.hid (own_below HO.out ((Below.refl _ _).alloc (Nat.le_refl _) (.cells #[.int .i64 W, .int .i64 H, .int .i64 Z] 25)))
  generalize w.alloc (.cells #[.int .i64 W, .int .i64 H, .int .i64 Z] 25) = W1 at *
  go_wp2_with fail
  refine wp_region_script (by kernel_rfl) (by kernel_rfl) ?_
  refine Script.load (i := 0) (v := ?_) rfl (by kernel_rfl) (by kernel_rfl) (fun _ _ _ h => h) (by kernel_rfl) ?_ ?_
  rotate_left
  · (intro wS hSw; obtain ⟨c0, c1, c2, -, -⟩ := B0.out.later (After.trans (After.drew (After.refl _)) hSw); go_simp; try with_reducible rfl)
  try simp only [Act.put, List.getElem_toArray, List.getElem_cons_succ, List.getElem_cons_zero, List.setIfInBounds_toArray, List.set_cons_zero, List.set_cons_succ]
  refine Script.load (i := 1) (v := ?_) rfl (by kernel_rfl) (by kernel_rfl) (fun _ _ _ h => h) (by kernel_rfl) ?_ ?_
  rotate_left
  · (intro wS hSw; obtain ⟨c0, c1, c2, -, -⟩ := B0.out.later (After.trans (After.drew (After.refl _)) hSw); go_simp; try with_reducible rfl)
  try simp only [Act.put, List.getElem_toArray, List.getElem_cons_succ, List.getElem_cons_zero, List.setIfInBounds_toArray, List.set_cons_zero, List.set_cons_succ]
  refine Script.load (i := 2) (v := ?_) rfl (by kernel_rfl) (by kernel_rfl) (fun _ _ _ h => h) (by kernel_rfl) ?_ ?_
  rotate_left
  · (intro wS hSw; obtain ⟨c0, c1, c2, -, -⟩ := B0.out.later (After.trans (After.drew (After.refl _)) hSw); go_simp; try with_reducible rfl)
  try simp only [Act.put, List.getElem_toArray, List.getElem_cons_succ, List.getElem_cons_zero, List.setIfInBounds_toArray, List.set_cons_zero, List.set_cons_succ]
  refine Script.one (i := 3) rfl (by kernel_rfl) (by kernel_rfl) ?_
  intro wO hO K hK; have hSw := hO; obtain ⟨c0, c1, c2, -, -⟩ := B0.out.later (After.trans (After.drew (After.refl _)) hSw); go_simp
  clear hSw
  go_at_call 57; refine (C1.out _ (own_below HO0.out (After.trans (After.drew (After.refl _)) hO))).mono ?_; rintro e wc ⟨v, rfl, hh, hbc⟩; rw [HN.out] at hh; obtain ⟨ga', gc', rfl⟩ := lines_form hh
  refine hK.out _ _ hbc ?_
  clear hK K
  try simp only [Act.put, List.getElem_toArray, List.getElem_cons_succ, List.getElem_cons_zero, List.setIfInBounds_toArray, List.set_cons_zero, List.set_cons_succ]
  clear c0 c1 c2
  refine Script.call (i := 4) (v := ?_) rfl (by kernel_rfl) (by kernel_rfl) (fun _ _ _ h => h) (by kernel_rfl) ?_ ?_
  rotate_left
  · (intro wS hSw K hK; go_simp; go_at_call 104; refine (C3.out _ (own_below hh hSw)).mono ?_; rintro e wd ⟨rfl, hbd⟩; have hbc := hbd; exact hK.out _ hbc)
  try simp only [Act.put, List.getElem_toArray, List.getElem_cons_succ, List.getElem_cons_zero, List.setIfInBounds_toArray, List.set_cons_zero, List.set_cons_succ]
  refine Script.load (i := 5) (v := ?_) rfl (by kernel_rfl) (by kernel_rfl) (fun _ _ _ h => h) (by kernel_rfl) ?_ ?_
  rotate_left
  · (intro wS hSw; go_simp; try with_reducible rfl)
  try simp only [Act.put, List.getElem_toArray, List.getElem_cons_succ, List.getElem_cons_zero, List.setIfInBounds_toArray, List.set_cons_zero, List.set_cons_succ]
  refine Script.load (i := 6) (v := ?_) rfl (by kernel_rfl) (by kernel_rfl) (fun _ _ _ h => h) (by kernel_rfl) ?_ ?_
  rotate_left
  · (intro wS hSw; go_simp; try with_reducible rfl)
  try simp only [Act.put, List.getElem_toArray, List.getElem_cons_succ, List.getElem_cons_zero, List.setIfInBounds_toArray, List.set_cons_zero, List.set_cons_succ]
  refine Script.load (i := 7) (v := ?_) rfl (by kernel_rfl) (by kernel_rfl) (fun _ _ _ h => h) (by kernel_rfl) ?_ ?_
  rotate_left
  · (intro wS hSw; go_simp; try with_reducible rfl)
  try simp only [Act.put, List.getElem_toArray, List.getElem_cons_succ, List.getElem_cons_zero, List.setIfInBounds_toArray, List.set_cons_zero, List.set_cons_succ]
  refine Script.load (i := 8) (v := ?_) rfl (by kernel_rfl) (by kernel_rfl) (fun _ _ _ h => h) (by kernel_rfl) ?_ ?_
  rotate_left
  · (intro wS hSw; go_simp; try with_reducible rfl)
  try simp only [Act.put, List.getElem_toArray, List.getElem_cons_succ, List.getElem_cons_zero, List.setIfInBounds_toArray, List.set_cons_zero, List.set_cons_succ]
  refine Script.done (by kernel_rfl) ?_
  intro wD hD hG
  have hb6 := After.trans (After.drew (After.refl _)) (After.trans hO (After.trans hbc hD))
  have HF := Lib.hid (B0.out.later hb6).2.2.2.2
  clear hD hG hO hbc hh hb6 B0 HO HO0
  go_wp2_with fail
  go_ret2
  exact ⟨rfl, HF.out⟩
end Go.Proofs.Ytpdhdogllejdbaa

namespace Go.Proofs.Ytpdhdogllejdbaa
set_option linter.unusedVariables false
set_option linter.unusedSimpArgs false
/-- The holes of z that are not in p, as a sum. -/
def compN (z p : Nat) : Nat := z ^^^ (z &&& p)
theorem bit_comp (z p k : Nat) : bit (compN z p) k = (bit z k && !bit p k) := by
  rw [compN, bit_xor, bit_and]
  cases bit z k <;> cases bit p k <;> rfl
theorem part_comp (z p : Nat) : Part (compN z p) z := part_of fun k h => by
  rw [bit_comp] at h
  simp only [Bool.and_eq_true] at h
  exact h.1
theorem comp_comp {p z : Nat} (h : Part p z) : compN z (compN z p) = p := eq_of_bits fun k => by
  rw [bit_comp, bit_comp]
  cases hp : bit p k
  · simp
  · rw [h.bit hp]; rfl
theorem comp_add {p z : Nat} (h : Part p z) : compN z p + p = z := by
  have key : ∀ n, powSum (bitsOf n (compN z p)) + powSum (bitsOf n p) = powSum (bitsOf n z) := by
    intro n
    induction n with
    | zero => rfl
    | succ n ih =>
      rw [bitsOf_succ, bitsOf_succ, bitsOf_succ, powSum_append, powSum_append, powSum_append, bit_comp]
      cases hp : bit p n
      · cases hz : bit z n
        · simp [powSum]; simp [powSum] at ih; omega
        · simp [powSum]; simp [powSum] at ih; omega
      · rw [h.bit hp]; simp [powSum]; simp [powSum] at ih; omega
  have h1 := (part_comp z p).le
  have h2 := h.le
  have hz : z < 2 ^ z := Nat.lt_two_pow_self
  have := key z
  rwa [powSum_all (Nat.lt_of_le_of_lt h1 hz), powSum_all (Nat.lt_of_le_of_lt h2 hz), powSum_all hz] at this
theorem pc_comp {p z : Nat} (h : Part p z) : ∀ n, pc n (compN z p) + pc n p = pc n z
  | 0 => rfl
  | n + 1 => by
    rw [pc_next, pc_next, pc_next, bit_comp]
    have ih := pc_comp h n
    cases hp : bit p n
    · cases hz : bit z n
      · simp; omega
      · simp; omega
    · rw [h.bit hp]; simp; omega
theorem flip_comp {z p f o t : Nat} (hf : bit z f = true) (ho : bit z o = true) (ht : bit z t = true) : flipN (compN z (flipN p f o t)) f o t = compN z p := eq_of_bits fun j => by
  rw [bit_flip, bit_comp, bit_comp, bit_flip]
  by_cases j1 : f = j
  · subst j1; simp [hf]
  · by_cases j2 : o = j
    · subst j2; simp [ho]
    · by_cases j3 : t = j
      · subst j3; simp [ht]
      · simp [j1, j2, j3]
theorem bef_comp {z p f o t : Nat} (hf : bit z f = true) (ho : bit z o = true) (ht : bit z t = true) (h : befN p f o t = true) : befN (compN z (flipN p f o t)) f o t = true := by
  simp only [befN, Bool.and_eq_true, Bool.not_eq_true'] at h
  simp [befN, bit_comp, bit_flip, hf, ho, ht, h.1.1, h.1.2, h.2]
/-- The complement of a position; -1 if it is none. -/
def otherB (W H Z P : Int) : Int := if posB W H Z P = true then Z - P else -1
theorem other_no {W H Z P : Int} (h : posB W H Z P = false) : otherB W H Z P = -1 := by simp [otherB, h]
theorem other_nat {W H : Int} {N z p : Nat} (ho : Ok W H N z) (hp : Part p z) : otherB W H z p = (compN z p : Nat) := by
  have := comp_add hp
  unfold otherB
  rw [if_pos (pos_of ho hp)]
  omega
theorem other_big (W H Z P : Int) : otherB W H Z P ≤ 9223372036854775807 := by
  cases h : posB W H Z P
  · rw [other_no h]; omega
  · obtain ⟨N, z, p, rfl, rfl, ho, hp⟩ := pos_yes h
    rw [other_nat ho hp]
    have := (part_comp z p).le
    have := ho.big
    omega
theorem other_pos {W H Z P : Int} (h : posB W H Z P = true) : posB W H Z (otherB W H Z P) = true := by
  obtain ⟨N, z, p, rfl, rfl, ho, hp⟩ := pos_yes h
  rw [other_nat ho hp]
  exact pos_of ho (part_comp z p)
theorem other_other {W H Z P : Int} (h : posB W H Z P = true) : otherB W H Z (otherB W H Z P) = P := by
  obtain ⟨N, z, p, rfl, rfl, ho, hp⟩ := pos_yes h
  rw [other_nat ho hp, other_nat ho (part_comp z p), comp_comp hp]
/-- A jump backwards leads from the complement behind it to the complement before it. -/
theorem turn_step {W H Z P x : Int} {l : Ln} (h : jumpB W H Z P l = true) (hx : flipL P l = x) : doB W H Z (otherB W H Z x) l = (otherB W H Z P, true) := by
  subst hx
  obtain ⟨a, b, N, z, p, f, o, t, S, hbef⟩ := jump_set h
  obtain ⟨h1, h2, h3⟩ := jump_parts h
  have L := S.at'
  have hq := part_flip S.part L.bf L.bo L.bt
  have e1 : otherB W H Z (flipL P l) = (compN z (flipN p f o t) : Nat) := by rw [S.flip, S.eW, S.eH, S.eZ, other_nat S.ok hq]
  have e2 : otherB W H Z P = (compN z p : Nat) := by rw [S.eP, S.eW, S.eH, S.eZ, other_nat S.ok S.part]
  have S' : Set5 W H Z (compN z (flipN p f o t) : Nat) l a b N z (compN z (flipN p f o t)) f o t := ⟨S.eW, S.eH, S.eZ, rfl, S.ok, part_comp _ _, L⟩
  have hj : jumpB W H Z (compN z (flipN p f o t) : Nat) l = true := by
    have hp : posB W H Z (compN z (flipN p f o t) : Nat) = true := by rw [S.eW, S.eH, S.eZ]; exact pos_of S.ok (part_comp _ _)
    simp only [jumpB, hp, h2, S'.bef, bef_comp L.bf L.bo L.bt hbef]; rfl
  rw [e1, e2, do_yes hj, S'.flip, flip_comp L.bf L.bo L.bt]
theorem turn_run {W H Z P q : Int} {xs : List Ln} (h : runO (doB W H Z) P xs = some q) : runO (doB W H Z) (otherB W H Z q) xs.reverse = some (otherB W H Z P) := by
  induction xs generalizing P with
  | nil =>
    obtain rfl := Option.some.inj ((runO_nil _ P).symm.trans h)
    rfl
  | cons l xs ih =>
    obtain ⟨hj, h2⟩ := run_step h
    rw [List.reverse_cons, runO_snoc, ih h2]
    simp [stO, turn_step hj rfl]
/-- Whether a game of a position is one from the complement of its end, turned. -/
def canB (W H Z P : Int) (xs : List Ln) : Bool := (playB W H Z P xs).2 && solB W H Z (otherB W H Z (playB W H Z P xs).1) (otherB W H Z P) xs.reverse
theorem turn_sol {W H Z P q : Int} {xs : List Ln} (hp : posB W H Z q = true) (hn : xs.length ≤ 60) (h : runO (doB W H Z) P xs = some q) : solB W H Z (otherB W H Z q) (otherB W H Z P) xs.reverse = true := by
  have h2 : playB W H Z (otherB W H Z q) xs.reverse = (otherB W H Z P, true) := allB_yes (other_pos hp) (by rw [List.length_reverse]; exact hn) (turn_run h)
  simp [solB, h2]
theorem can_yes {W H Z P q : Int} {xs : List Ln} (hp : posB W H Z P = true) (hn : xs.length ≤ 60) (h : runO (doB W H Z) P xs = some q) : canB W H Z P xs = true := by
  have h1 : playB W H Z P xs = (q, true) := allB_yes hp hn h
  simp [canB, h1, turn_sol (run_back hp h).1 hn h]
/-- Whether Q is the complement of P. -/
def complB (W H Z P Q : Int) : Bool := posB W H Z P && (Q == otherB W H Z P)
end Go.Proofs.Ytpdhdogllejdbaa

namespace Go.Proofs.Ytpdhdogllejdbaa
open Go.RowKit
set_option linter.unusedVariables false
set_option linter.unusedSimpArgs false
theorem sub_comp {p z : Nat} (h : Part p z) (hz : z < 9223372036854775808) : IntKind.i64.wrap ((z : Int) - (p : Int)) = ((compN z p : Nat) : Int) := by
  have := comp_add h
  rw [show (z : Int) - (p : Int) = ((compN z p : Nat) : Int) by omega]
  exact IntWalk.i64_in _ (by omega)
theorem andNot_comp {p z : Nat} (h : Part p z) (hz : z < 9223372036854775808) : bits .andNot .i64 (z : Int) (p : Int) = ((compN z p : Nat) : Int) := not63 hz (Nat.lt_of_le_of_lt h.le hz)
set_option maxRecDepth 100000 in
theorem implOther_no {W H Z P : Int} (hP : P ≤ 9223372036854775807) (h : posB W H Z P = false) (w : World) : Calls Try.prog 56 #[.agg #[.int .i64 W, .int .i64 H, .int .i64 Z], .int .i64 P] w (QI (-1) w) := by
  have C1 := Lib.hid (implPos_is hP h)
  clear h hP
  go_enter Try.func56, Try.ntmps56
  go_wp2_with fail
  have B0 := Lib.hid (box_newT 25 W H Z w)
  generalize w.alloc (.cells #[.int .i64 W, .int .i64 H, .int .i64 Z] 25) = W1 at *
  obtain ⟨c0, c1, c2, hlt, hb1⟩ := B0.out
  go_wp2_with fail
  refine (C1.out _).mono ?_
  rintro e w1 ⟨rfl, hb⟩
  have B1 := Lib.hid (B0.out.later hb)
  clear c0 c1 c2 hlt hb1 hb B0
  go_wp2_with fail
  go_ret
  exact ⟨rfl, B1.out.2.2.2.2⟩
set_option maxRecDepth 100000 in
theorem implOther_yes {W H : Int} {N z p : Nat} (ho : Ok W H N z) (h : Part p z) (w : World) : Calls Try.prog 56 #[.agg #[.int .i64 W, .int .i64 H, .int .i64 z], .int .i64 p] w (QI (compN z p : Nat) w) := by
  have hz := ho.big
  have hand := andNot_comp h hz
  have C1 := Lib.hid (implPos_is (by have := h.le; omega) (pos_of ho h))
  generalize compN z p = q at *
  clear ho h hz
  go_enter Try.func56, Try.ntmps56
  go_wp2_with fail
  have B0 := Lib.hid (box_newT 25 W H z w)
  generalize w.alloc (.cells #[.int .i64 W, .int .i64 H, .int .i64 z] 25) = W1 at *
  obtain ⟨c0, c1, c2, hlt, hb1⟩ := B0.out
  go_wp2_with fail
  refine (C1.out _).mono ?_
  rintro e w1 ⟨rfl, hb⟩
  have B1 := Lib.hid (B0.out.later hb)
  clear c0 c1 c2 hlt hb1 hb B0
  obtain ⟨c0, c1, c2, hlt, hb1⟩ := B1.out
  go_wp2_with fail
  go_ret
  exact ⟨rfl, hb1⟩
theorem implOther (W H Z P : Int) (hP : P ≤ 9223372036854775807) (w : World) : Calls Try.prog 56 #[.agg #[.int .i64 W, .int .i64 H, .int .i64 Z], .int .i64 P] w (QI (otherB W H Z P) w) := by
  cases h : posB W H Z P
  · rw [other_no h]; exact implOther_no hP h w
  · obtain ⟨N, z, p, rfl, rfl, ho, hp⟩ := pos_yes h
    rw [other_nat ho hp]; exact implOther_yes ho hp w
set_option maxHeartbeats 1000000 in
set_option maxRecDepth 100000 in
theorem implCompl (W H Z P Q : Int) (hP : P ≤ 9223372036854775807) (hQ : Q ≤ 9223372036854775807) (w : World) : Calls Try.prog 59 #[.agg #[.int .i64 W, .int .i64 H, .int .i64 Z], .int .i64 P, .int .i64 Q] w (QB (complB W H Z P Q) w) := by
  have C2 := Lib.hid (fun w => implOther W H Z P hP w)
  cases h : posB W H Z P
  · have C1 := Lib.hid (implPos_is hP h)
    rw [show complB W H Z P Q = false by simp [complB, h]]
    clear h hP hQ C2
    go_enter Try.func59, Try.ntmps59
    go_wp2_with fail
    have B0 := Lib.hid (box_newT 25 W H Z w)
    generalize w.alloc (.cells #[.int .i64 W, .int .i64 H, .int .i64 Z] 25) = W1 at *
    obtain ⟨c0, c1, c2, hlt, hb1⟩ := B0.out
    go_wp2_with fail
    refine (C1.out _).mono ?_
    rintro e w1 ⟨rfl, hb⟩
    have B1 := Lib.hid (B0.out.later hb)
    clear c0 c1 c2 hlt hb1 hb B0
    go_wp2_with fail
    go_ret
    exact ⟨rfl, B1.out.2.2.2.2⟩
  · have C1 := Lib.hid (implPos_is hP h)
    rw [show complB W H Z P Q = (Q == otherB W H Z P) by simp [complB, h]]
    generalize otherB W H Z P = R at *
    clear h hP hQ
    go_enter Try.func59, Try.ntmps59
    go_wp2_with fail
    have B0 := Lib.hid (box_newT 25 W H Z w)
    generalize w.alloc (.cells #[.int .i64 W, .int .i64 H, .int .i64 Z] 25) = W1 at *
    obtain ⟨c0, c1, c2, hlt, hb1⟩ := B0.out
    go_wp2_with fail
    refine (C1.out _).mono ?_
    rintro e w1 ⟨rfl, hb⟩
    have B1 := Lib.hid (B0.out.later hb)
    clear c0 c1 c2 hlt hb1 hb B0
    obtain ⟨c0, c1, c2, hlt, hb1⟩ := B1.out
    go_wp2_with fail
    refine (C2.out _).mono ?_
    rintro e w2 ⟨rfl, hb⟩
    have B2 := Lib.hid (B1.out.later hb)
    clear c0 c1 c2 hlt hb1 hb B1
    go_wp2_with fail
    go_ret
    exact ⟨rfl, B2.out.2.2.2.2⟩
end Go.Proofs.Ytpdhdogllejdbaa

namespace Go.Proofs.Ytpdhdogllejdbaa
open Go.RowKit
set_option linter.unusedVariables false
set_option linter.unusedSimpArgs false
theorem pos_big {W H Z P : Int} (h : posB W H Z P = true) : P ≤ 9223372036854775807 := by
  obtain ⟨N, z, p, rfl, rfl, ho, hp⟩ := pos_yes h
  have := hp.le
  have := ho.big
  omega
set_option maxHeartbeats 2000000 in
set_option maxRecDepth 100000 in
theorem implCanTurn (W H Z P : Int) (hP : P ≤ 9223372036854775807) (xs : List Ln) {n B gc : Nat} {ga : Option Addr} (hn : xs.length = n) (hx : n ≤ 1048576) (w : World) (ho : w.ownsRow B 31 3 (.slice ga n gc) n (lv xs)) :
    Calls Try.prog 58 #[.agg #[.int .i64 W, .int .i64 H, .int .i64 Z], .int .i64 P, .slice ga n gc] w (QB (canB W H Z P xs) w) := by
  have C1 : Hid (∀ w, w.ownsRow B 31 3 (.slice ga n gc) n (lv xs) → Calls Try.prog 44 #[.agg #[.int .i64 W, .int .i64 H, .int .i64 Z], .int .i64 P, .slice ga n gc] w (QP (playB W H Z P xs) w)) := fun w ho => implPlay W H Z P hP xs hn hx w ho
  have HO := Lib.hid ho
  unfold canB
  obtain ⟨⟨q, y⟩, hy⟩ : ∃ r, playB W H Z P xs = r := ⟨_, rfl⟩
  rw [hy] at C1 ⊢
  cases y
  · show Calls _ _ _ _ (QB false w)
    clear hn hx ho hP hy
    go_enter Try.func58, Try.ntmps58
    go_wp2_with fail
    have B0 := Lib.hid (box_newT 25 W H Z w)
    have HO0 := Lib.hid (own_below HO.out ((Below.refl _ _).alloc (Nat.le_refl _) (.cells #[.int .i64 W, .int .i64 H, .int .i64 Z] 25)))
    generalize w.alloc (.cells #[.int .i64 W, .int .i64 H, .int .i64 Z] 25) = W1 at *
    obtain ⟨c0, c1, c2, hlt, hb1⟩ := B0.out
    go_wp2_with fail
    refine (C1.out _ HO0.out).mono ?_
    rintro e w1 ⟨rfl, hb⟩
    have B1 := Lib.hid (B0.out.later hb)
    clear c0 c1 c2 hlt hb1 hb B0 HO HO0
    go_wp2_with fail
    refine wp_region_script (by kernel_rfl) (by kernel_rfl) ?_
    refine Script.load (i := 0) (v := ?_) rfl (by kernel_rfl) (by kernel_rfl) (fun _ _ _ h => h) (by kernel_rfl) ?_ ?_
    rotate_left
    · (intro wS hSw; go_simp; try with_reducible rfl)
    try simp only [Act.put, List.getElem_toArray, List.getElem_cons_succ, List.getElem_cons_zero, List.setIfInBounds_toArray, List.set_cons_zero, List.set_cons_succ]
    refine Script.load (i := 1) (v := ?_) rfl (by kernel_rfl) (by kernel_rfl) (fun _ _ _ h => h) (by kernel_rfl) ?_ ?_
    rotate_left
    · (intro wS hSw; go_simp; try with_reducible rfl)
    try simp only [Act.put, List.getElem_toArray, List.getElem_cons_succ, List.getElem_cons_zero, List.setIfInBounds_toArray, List.set_cons_zero, List.set_cons_succ]
    refine Script.skip (i := 2) rfl (by kernel_rfl) (by kernel_rfl) (fun _ _ _ h => h) (by kernel_rfl) ?_
    try simp only [Act.put, List.getElem_toArray, List.getElem_cons_succ, List.getElem_cons_zero, List.setIfInBounds_toArray, List.set_cons_zero, List.set_cons_succ]
    refine Script.skip (i := 3) rfl (by kernel_rfl) (by kernel_rfl) (fun _ _ _ h => h) (by kernel_rfl) ?_
    try simp only [Act.put, List.getElem_toArray, List.getElem_cons_succ, List.getElem_cons_zero, List.setIfInBounds_toArray, List.set_cons_zero, List.set_cons_succ]
    refine Script.skip (i := 4) rfl (by kernel_rfl) (by kernel_rfl) (fun _ _ _ h => h) (by kernel_rfl) ?_
    try simp only [Act.put, List.getElem_toArray, List.getElem_cons_succ, List.getElem_cons_zero, List.setIfInBounds_toArray, List.set_cons_zero, List.set_cons_succ]
    refine Script.skip (i := 5) rfl (by kernel_rfl) (by kernel_rfl) (fun _ _ _ h => h) (by kernel_rfl) ?_
    try simp only [Act.put, List.getElem_toArray, List.getElem_cons_succ, List.getElem_cons_zero, List.setIfInBounds_toArray, List.set_cons_zero, List.set_cons_succ]
    refine Script.skip (i := 6) rfl (by kernel_rfl) (by kernel_rfl) (fun _ _ _ h => h) (by kernel_rfl) ?_
    try simp only [Act.put, List.getElem_toArray, List.getElem_cons_succ, List.getElem_cons_zero, List.setIfInBounds_toArray, List.set_cons_zero, List.set_cons_succ]
    refine Script.skip (i := 7) rfl (by kernel_rfl) (by kernel_rfl) (fun _ _ _ h => h) (by kernel_rfl) ?_
    try simp only [Act.put, List.getElem_toArray, List.getElem_cons_succ, List.getElem_cons_zero, List.setIfInBounds_toArray, List.set_cons_zero, List.set_cons_succ]
    refine Script.skip (i := 8) rfl (by kernel_rfl) (by kernel_rfl) (fun _ _ _ h => h) (by kernel_rfl) ?_
    try simp only [Act.put, List.getElem_toArray, List.getElem_cons_succ, List.getElem_cons_zero, List.setIfInBounds_toArray, List.set_cons_zero, List.set_cons_succ]
    refine Script.skip (i := 9) rfl (by kernel_rfl) (by kernel_rfl) (fun _ _ _ h => h) (by kernel_rfl) ?_
    try simp only [Act.put, List.getElem_toArray, List.getElem_cons_succ, List.getElem_cons_zero, List.setIfInBounds_toArray, List.set_cons_zero, List.set_cons_succ]
    refine Script.skip (i := 10) rfl (by kernel_rfl) (by kernel_rfl) (fun _ _ _ h => h) (by kernel_rfl) ?_
    try simp only [Act.put, List.getElem_toArray, List.getElem_cons_succ, List.getElem_cons_zero, List.setIfInBounds_toArray, List.set_cons_zero, List.set_cons_succ]
    refine Script.skip (i := 11) rfl (by kernel_rfl) (by kernel_rfl) (fun _ _ _ h => h) (by kernel_rfl) ?_
    try simp only [Act.put, List.getElem_toArray, List.getElem_cons_succ, List.getElem_cons_zero, List.setIfInBounds_toArray, List.set_cons_zero, List.set_cons_succ]
    refine Script.load (i := 12) (v := ?_) rfl (by kernel_rfl) (by kernel_rfl) (fun _ _ _ h => h) (by kernel_rfl) ?_ ?_
    rotate_left
    · (intro wS hSw; go_simp; try with_reducible rfl)
    try simp only [Act.put, List.getElem_toArray, List.getElem_cons_succ, List.getElem_cons_zero, List.setIfInBounds_toArray, List.set_cons_zero, List.set_cons_succ]
    refine Script.load (i := 13) (v := ?_) rfl (by kernel_rfl) (by kernel_rfl) (fun _ _ _ h => h) (by kernel_rfl) ?_ ?_
    rotate_left
    · (intro wS hSw; go_simp; try with_reducible rfl)
    try simp only [Act.put, List.getElem_toArray, List.getElem_cons_succ, List.getElem_cons_zero, List.setIfInBounds_toArray, List.set_cons_zero, List.set_cons_succ]
    refine Script.done (by kernel_rfl) ?_
    intro wD hD hG
    have hb6 := After.trans (After.drew (After.refl _)) hD
    have HF := Lib.hid (B1.out.later hb6).2.2.2.2
    clear hD hG hb6 B1
    go_wp2_with fail
    go_ret
    exact ⟨rfl, HF.out⟩
  · show Calls _ _ _ _ (QB (true && solB W H Z (otherB W H Z q) (otherB W H Z P) xs.reverse) w)
    rw [Bool.true_and]
    obtain ⟨hpos, -, hrun⟩ := play_yes hy
    have hq := pos_big (run_back hpos hrun).1
    have C2 := Lib.hid (fun w => implOther W H Z q hq w)
    have C3 := Lib.hid (fun w => implOther W H Z P hP w)
    have C4 : Hid (∀ w, w.ownsRow B 31 3 (.slice ga n gc) n (lv xs) → Calls Try.prog 57 #[.slice ga n gc] w (OwnLines xs.reverse w)) := fun w ho => implTurnGame xs hn hx w ho
    have hnr : xs.reverse.length = n := by rw [List.length_reverse, hn]
    have C5 : Hid (∀ {B' gc : Nat} {ga : Option Addr} w, w.ownsRow B' 31 3 (.slice ga n gc) n (lv xs.reverse) → Calls Try.prog 48 #[.agg #[.int .i64 W, .int .i64 H, .int .i64 Z], .int .i64 (otherB W H Z q), .int .i64 (otherB W H Z P), .slice ga n gc] w (QB (solB W H Z (otherB W H Z q) (otherB W H Z P) xs.reverse) w)) := fun w ho =>
      implSol W H Z _ _ (other_big W H Z q) xs.reverse hnr hx w ho
    have HNR := Lib.hid hnr
    generalize solB W H Z (otherB W H Z q) (otherB W H Z P) xs.reverse = R at *
    generalize otherB W H Z q = oq at *
    generalize otherB W H Z P = op at *
    clear hn hx ho hP hy hnr hpos hrun hq
    go_enter Try.func58, Try.ntmps58
    go_wp2_with fail
    have B0 := Lib.hid (box_newT 25 W H Z w)
    have HO0 := Lib.hid (own_below HO.out ((Below.refl _ _).alloc (Nat.le_refl _) (.cells #[.int .i64 W, .int .i64 H, .int .i64 Z] 25)))
    generalize w.alloc (.cells #[.int .i64 W, .int .i64 H, .int .i64 Z] 25) = W1 at *
    obtain ⟨c0, c1, c2, hlt, hb1⟩ := B0.out
    go_wp2_with fail
    refine (C1.out _ HO0.out).mono ?_
    rintro e w1 ⟨rfl, hb⟩
    have B1 := Lib.hid (B0.out.later hb)
    have HO1 := Lib.hid (own_below HO0.out hb)
    clear c0 c1 c2 hlt hb1 hb B0 HO HO0 C1
    go_wp2_with fail
    refine wp_region_script (by kernel_rfl) (by kernel_rfl) ?_
    refine Script.load (i := 0) (v := ?_) rfl (by kernel_rfl) (by kernel_rfl) (fun _ _ _ h => h) (by kernel_rfl) ?_ ?_
    rotate_left
    · (intro wS hSw; obtain ⟨c0, c1, c2, -, -⟩ := B1.out.later (After.trans (After.drew (After.refl _)) hSw); go_simp; try with_reducible rfl)
    try simp only [Act.put, List.getElem_toArray, List.getElem_cons_succ, List.getElem_cons_zero, List.setIfInBounds_toArray, List.set_cons_zero, List.set_cons_succ]
    refine Script.load (i := 1) (v := ?_) rfl (by kernel_rfl) (by kernel_rfl) (fun _ _ _ h => h) (by kernel_rfl) ?_ ?_
    rotate_left
    · (intro wS hSw; obtain ⟨c0, c1, c2, -, -⟩ := B1.out.later (After.trans (After.drew (After.refl _)) hSw); go_simp; try with_reducible rfl)
    try simp only [Act.put, List.getElem_toArray, List.getElem_cons_succ, List.getElem_cons_zero, List.setIfInBounds_toArray, List.set_cons_zero, List.set_cons_succ]
    refine Script.load (i := 2) (v := ?_) rfl (by kernel_rfl) (by kernel_rfl) (fun _ _ _ h => h) (by kernel_rfl) ?_ ?_
    rotate_left
    · (intro wS hSw; obtain ⟨c0, c1, c2, -, -⟩ := B1.out.later (After.trans (After.drew (After.refl _)) hSw); go_simp; try with_reducible rfl)
    try simp only [Act.put, List.getElem_toArray, List.getElem_cons_succ, List.getElem_cons_zero, List.setIfInBounds_toArray, List.set_cons_zero, List.set_cons_succ]
    refine Script.load (i := 3) (v := ?_) rfl (by kernel_rfl) (by kernel_rfl) (fun _ _ _ h => h) (by kernel_rfl) ?_ ?_
    rotate_left
    · (intro wS hSw; obtain ⟨c0, c1, c2, -, -⟩ := B1.out.later (After.trans (After.drew (After.refl _)) hSw); go_simp; try with_reducible rfl)
    try simp only [Act.put, List.getElem_toArray, List.getElem_cons_succ, List.getElem_cons_zero, List.setIfInBounds_toArray, List.set_cons_zero, List.set_cons_succ]
    refine Script.load (i := 4) (v := ?_) rfl (by kernel_rfl) (by kernel_rfl) (fun _ _ _ h => h) (by kernel_rfl) ?_ ?_
    rotate_left
    · (intro wS hSw; obtain ⟨c0, c1, c2, -, -⟩ := B1.out.later (After.trans (After.drew (After.refl _)) hSw); go_simp; try with_reducible rfl)
    try simp only [Act.put, List.getElem_toArray, List.getElem_cons_succ, List.getElem_cons_zero, List.setIfInBounds_toArray, List.set_cons_zero, List.set_cons_succ]
    refine Script.call (i := 5) (v := ?_) rfl (by kernel_rfl) (by kernel_rfl) (fun _ _ _ h => h) (by kernel_rfl) ?_ ?_
    rotate_left
    · (intro wS hSw K hK; obtain ⟨c0, c1, c2, -, -⟩ := B1.out.later (After.trans (After.drew (After.refl _)) hSw); go_simp; go_at_call 56; refine (C2.out _).mono ?_; rintro e wc ⟨rfl, hbc⟩; exact hK.out _ hbc)
    try simp only [Act.put, List.getElem_toArray, List.getElem_cons_succ, List.getElem_cons_zero, List.setIfInBounds_toArray, List.set_cons_zero, List.set_cons_succ]
    refine Script.load (i := 6) (v := ?_) rfl (by kernel_rfl) (by kernel_rfl) (fun _ _ _ h => h) (by kernel_rfl) ?_ ?_
    rotate_left
    · (intro wS hSw; obtain ⟨c0, c1, c2, -, -⟩ := B1.out.later (After.trans (After.drew (After.refl _)) hSw); go_simp; try with_reducible rfl)
    try simp only [Act.put, List.getElem_toArray, List.getElem_cons_succ, List.getElem_cons_zero, List.setIfInBounds_toArray, List.set_cons_zero, List.set_cons_succ]
    refine Script.load (i := 7) (v := ?_) rfl (by kernel_rfl) (by kernel_rfl) (fun _ _ _ h => h) (by kernel_rfl) ?_ ?_
    rotate_left
    · (intro wS hSw; obtain ⟨c0, c1, c2, -, -⟩ := B1.out.later (After.trans (After.drew (After.refl _)) hSw); go_simp; try with_reducible rfl)
    try simp only [Act.put, List.getElem_toArray, List.getElem_cons_succ, List.getElem_cons_zero, List.setIfInBounds_toArray, List.set_cons_zero, List.set_cons_succ]
    refine Script.call (i := 8) (v := ?_) rfl (by kernel_rfl) (by kernel_rfl) (fun _ _ _ h => h) (by kernel_rfl) ?_ ?_
    rotate_left
    · (intro wS hSw K hK; obtain ⟨c0, c1, c2, -, -⟩ := B1.out.later (After.trans (After.drew (After.refl _)) hSw); go_simp; go_at_call 56; refine (C3.out _).mono ?_; rintro e wc ⟨rfl, hbc⟩; exact hK.out _ hbc)
    try simp only [Act.put, List.getElem_toArray, List.getElem_cons_succ, List.getElem_cons_zero, List.setIfInBounds_toArray, List.set_cons_zero, List.set_cons_succ]
    refine Script.load (i := 9) (v := ?_) rfl (by kernel_rfl) (by kernel_rfl) (fun _ _ _ h => h) (by kernel_rfl) ?_ ?_
    rotate_left
    · (intro wS hSw; obtain ⟨c0, c1, c2, -, -⟩ := B1.out.later (After.trans (After.drew (After.refl _)) hSw); go_simp; try with_reducible rfl)
    try simp only [Act.put, List.getElem_toArray, List.getElem_cons_succ, List.getElem_cons_zero, List.setIfInBounds_toArray, List.set_cons_zero, List.set_cons_succ]
    refine Script.one (i := 10) rfl (by kernel_rfl) (by kernel_rfl) ?_
    intro wO hO K hK; have hSw := hO; obtain ⟨c0, c1, c2, -, -⟩ := B1.out.later (After.trans (After.drew (After.refl _)) hSw); go_simp
    clear hSw
    go_at_call 57; refine (C4.out _ (own_below HO1.out (After.trans (After.drew (After.refl _)) hO))).mono ?_; rintro e wc ⟨v, rfl, hh, hbc⟩; rw [HNR.out] at hh; obtain ⟨ga', gc', rfl⟩ := lines_form hh
    refine hK.out _ _ hbc ?_
    clear hK K
    try simp only [Act.put, List.getElem_toArray, List.getElem_cons_succ, List.getElem_cons_zero, List.setIfInBounds_toArray, List.set_cons_zero, List.set_cons_succ]
    clear c0 c1 c2
    refine Script.call (i := 11) (v := ?_) rfl (by kernel_rfl) (by kernel_rfl) (fun _ _ _ h => h) (by kernel_rfl) ?_ ?_
    rotate_left
    · (intro wS hSw K hK; go_simp; go_at_call 48; refine (C5.out _ (own_below hh hSw)).mono ?_; rintro e wd ⟨rfl, hbc⟩; exact hK.out _ hbc)
    try simp only [Act.put, List.getElem_toArray, List.getElem_cons_succ, List.getElem_cons_zero, List.setIfInBounds_toArray, List.set_cons_zero, List.set_cons_succ]
    refine Script.load (i := 12) (v := ?_) rfl (by kernel_rfl) (by kernel_rfl) (fun _ _ _ h => h) (by kernel_rfl) ?_ ?_
    rotate_left
    · (intro wS hSw; go_simp; try with_reducible rfl)
    try simp only [Act.put, List.getElem_toArray, List.getElem_cons_succ, List.getElem_cons_zero, List.setIfInBounds_toArray, List.set_cons_zero, List.set_cons_succ]
    refine Script.load (i := 13) (v := ?_) rfl (by kernel_rfl) (by kernel_rfl) (fun _ _ _ h => h) (by kernel_rfl) ?_ ?_
    rotate_left
    · (intro wS hSw; go_simp; try with_reducible rfl)
    try simp only [Act.put, List.getElem_toArray, List.getElem_cons_succ, List.getElem_cons_zero, List.setIfInBounds_toArray, List.set_cons_zero, List.set_cons_succ]
    refine Script.done (by kernel_rfl) ?_
    intro wD hD hG
    have hb6 := After.trans (After.drew (After.refl _)) (After.trans hO (After.trans hbc hD))
    have HF := Lib.hid (B1.out.later hb6).2.2.2.2
    clear hD hG hO hbc hh hb6 B1 HO1 C2 C3 C4 C5
    go_wp2_with fail
    go_ret
    exact ⟨rfl, HF.out⟩
end Go.Proofs.Ytpdhdogllejdbaa

namespace Go.Proofs.Ytpdhdogllejdbaa
open Go.RowKit
set_option linter.unusedVariables false
set_option linter.unusedSimpArgs false
set_option maxHeartbeats 1000000 in
set_option maxRecDepth 100000 in
theorem sameLines (xs : List Ln) {n B1 B2 ca cb : Nat} {ga gb : Option Addr} (hn : xs.length = n) (hx : n ≤ 1048576) (w : World) (ha : w.ownsRow B1 31 3 (.slice ga n ca) n (lv xs)) (hb : w.ownsRow B2 31 3 (.slice gb n cb) n (lv xs)) :
    Calls Try.prog 61 #[.slice ga n ca, .slice gb n cb] w (QB true w) := by
  have HN := Lib.hid hn
  have HA := Lib.hid ha
  have HB := Lib.hid hb
  clear ha hb hn
  go_enter Try.func61, Try.ntmps61
  go_wp2_with fail
  go_loopw [5] (fun i wr => ∃ k : Nat, k ≤ n ∧ i = .int .i64 k ∧ Hid (Below w.heap.size w wr)) (fun i _ => n - (intOf i).toNat)
  case atStart => exact ⟨0, Nat.zero_le _, rfl, Below.refl _ _⟩
  case round =>
    obtain ⟨k, hk, rfl, HW⟩ := hrel
    by_cases hkn : k < n
    · obtain ⟨⟨f, o, t⟩, hl⟩ : ∃ l, xs[k]? = some l := ⟨_, List.getElem?_eq_getElem (by rw [HN.out]; exact hkn)⟩
      have k0 : (0 : Int) ≤ (k : Int) := by omega
      have k1 : (k : Int) < (n : Int) := by omega
      have XA := Lib.hid (own_below HA.out HW.out)
      have XB := Lib.hid (own_below HB.out HW.out)
      obtain ⟨g, rfl⟩ := lines_at XA.out HN.out (by omega)
      obtain ⟨g', rfl⟩ := lines_at XB.out HN.out (by omega)
      have CE : Hid (∀ w' : World, After wr w' → w'.cell? ⟨g, k * 3, none⟩ = some (.int .i64 f) ∧ w'.cell? ⟨g, k * 3 + 1, none⟩ = some (.int .i64 o) ∧ w'.cell? ⟨g, k * 3 + 2, none⟩ = some (.int .i64 t)) := fun w' hh => line_cells (own_below XA.out hh) HN.out hl
      have CF : Hid (∀ w' : World, After wr w' → w'.cell? ⟨g', k * 3, none⟩ = some (.int .i64 f) ∧ w'.cell? ⟨g', k * 3 + 1, none⟩ = some (.int .i64 o) ∧ w'.cell? ⟨g', k * 3 + 2, none⟩ = some (.int .i64 t)) := fun w' hh => line_cells (own_below XB.out hh) HN.out hl
      clear hl XA XB
      go_wp2_with fail
      refine wp_region_script (by kernel_rfl) (by kernel_rfl) ?_
      refine Script.load (i := 0) (v := ?_) rfl (by kernel_rfl) (by kernel_rfl) (fun _ _ _ h => h) (by kernel_rfl) ?_ ?_
      rotate_left
      · (intro wS hSw; obtain ⟨l0, l1, l2⟩ := CE.out _ (After.trans (After.drew (After.refl _)) hSw); obtain ⟨m0, m1, m2⟩ := CF.out _ (After.trans (After.drew (After.refl _)) hSw); go_simp; try with_reducible rfl)
      try simp only [Act.put, List.getElem_toArray, List.getElem_cons_succ, List.getElem_cons_zero, List.setIfInBounds_toArray, List.set_cons_zero, List.set_cons_succ]
      refine Script.load (i := 1) (v := ?_) rfl (by kernel_rfl) (by kernel_rfl) (fun _ _ _ h => h) (by kernel_rfl) ?_ ?_
      rotate_left
      · (intro wS hSw; obtain ⟨l0, l1, l2⟩ := CE.out _ (After.trans (After.drew (After.refl _)) hSw); obtain ⟨m0, m1, m2⟩ := CF.out _ (After.trans (After.drew (After.refl _)) hSw); go_simp; try with_reducible rfl)
      try simp only [Act.put, List.getElem_toArray, List.getElem_cons_succ, List.getElem_cons_zero, List.setIfInBounds_toArray, List.set_cons_zero, List.set_cons_succ]
      refine Script.load (i := 2) (v := ?_) rfl (by kernel_rfl) (by kernel_rfl) (fun _ _ _ h => h) (by kernel_rfl) ?_ ?_
      rotate_left
      · (intro wS hSw; obtain ⟨l0, l1, l2⟩ := CE.out _ (After.trans (After.drew (After.refl _)) hSw); obtain ⟨m0, m1, m2⟩ := CF.out _ (After.trans (After.drew (After.refl _)) hSw); go_simp; try with_reducible rfl)
      try simp only [Act.put, List.getElem_toArray, List.getElem_cons_succ, List.getElem_cons_zero, List.setIfInBounds_toArray, List.set_cons_zero, List.set_cons_succ]
      refine Script.load (i := 3) (v := ?_) rfl (by kernel_rfl) (by kernel_rfl) (fun _ _ _ h => h) (by kernel_rfl) ?_ ?_
      rotate_left
      · (intro wS hSw; obtain ⟨l0, l1, l2⟩ := CE.out _ (After.trans (After.drew (After.refl _)) hSw); obtain ⟨m0, m1, m2⟩ := CF.out _ (After.trans (After.drew (After.refl _)) hSw); go_simp; try with_reducible rfl)
      try simp only [Act.put, List.getElem_toArray, List.getElem_cons_succ, List.getElem_cons_zero, List.setIfInBounds_toArray, List.set_cons_zero, List.set_cons_succ]
      refine Script.load (i := 4) (v := ?_) rfl (by kernel_rfl) (by kernel_rfl) (fun _ _ _ h => h) (by kernel_rfl) ?_ ?_
      rotate_left
      · (intro wS hSw; obtain ⟨l0, l1, l2⟩ := CE.out _ (After.trans (After.drew (After.refl _)) hSw); obtain ⟨m0, m1, m2⟩ := CF.out _ (After.trans (After.drew (After.refl _)) hSw); go_simp; try with_reducible rfl)
      try simp only [Act.put, List.getElem_toArray, List.getElem_cons_succ, List.getElem_cons_zero, List.setIfInBounds_toArray, List.set_cons_zero, List.set_cons_succ]
      refine Script.load (i := 5) (v := ?_) rfl (by kernel_rfl) (by kernel_rfl) (fun _ _ _ h => h) (by kernel_rfl) ?_ ?_
      rotate_left
      · (intro wS hSw; obtain ⟨l0, l1, l2⟩ := CE.out _ (After.trans (After.drew (After.refl _)) hSw); obtain ⟨m0, m1, m2⟩ := CF.out _ (After.trans (After.drew (After.refl _)) hSw); go_simp; try with_reducible rfl)
      try simp only [Act.put, List.getElem_toArray, List.getElem_cons_succ, List.getElem_cons_zero, List.setIfInBounds_toArray, List.set_cons_zero, List.set_cons_succ]
      refine Script.load (i := 6) (v := ?_) rfl (by kernel_rfl) (by kernel_rfl) (fun _ _ _ h => h) (by kernel_rfl) ?_ ?_
      rotate_left
      · (intro wS hSw; obtain ⟨l0, l1, l2⟩ := CE.out _ (After.trans (After.drew (After.refl _)) hSw); obtain ⟨m0, m1, m2⟩ := CF.out _ (After.trans (After.drew (After.refl _)) hSw); go_simp; try with_reducible rfl)
      try simp only [Act.put, List.getElem_toArray, List.getElem_cons_succ, List.getElem_cons_zero, List.setIfInBounds_toArray, List.set_cons_zero, List.set_cons_succ]
      refine Script.load (i := 7) (v := ?_) rfl (by kernel_rfl) (by kernel_rfl) (fun _ _ _ h => h) (by kernel_rfl) ?_ ?_
      rotate_left
      · (intro wS hSw; obtain ⟨l0, l1, l2⟩ := CE.out _ (After.trans (After.drew (After.refl _)) hSw); obtain ⟨m0, m1, m2⟩ := CF.out _ (After.trans (After.drew (After.refl _)) hSw); go_simp; try with_reducible rfl)
      try simp only [Act.put, List.getElem_toArray, List.getElem_cons_succ, List.getElem_cons_zero, List.setIfInBounds_toArray, List.set_cons_zero, List.set_cons_succ]
      refine Script.load (i := 8) (v := ?_) rfl (by kernel_rfl) (by kernel_rfl) (fun _ _ _ h => h) (by kernel_rfl) ?_ ?_
      rotate_left
      · (intro wS hSw; obtain ⟨l0, l1, l2⟩ := CE.out _ (After.trans (After.drew (After.refl _)) hSw); obtain ⟨m0, m1, m2⟩ := CF.out _ (After.trans (After.drew (After.refl _)) hSw); go_simp; try with_reducible rfl)
      try simp only [Act.put, List.getElem_toArray, List.getElem_cons_succ, List.getElem_cons_zero, List.setIfInBounds_toArray, List.set_cons_zero, List.set_cons_succ]
      refine Script.done (by kernel_rfl) ?_
      intro wD hD hG
      have hb6 := After.trans (After.drew (After.refl _)) hD
      have HW6 := Lib.hid (HW.out.trans (hb6.mono HW.out.size))
      clear hD hG hb6 HW CE CF
      go_wp2_with fail
      go_roundw
      case rel => exact ⟨k + 1, by omega, by go_num, HW6⟩
      case measure => simp [intOf]; omega
    · obtain rfl : k = n := by omega
      go_wp2_with fail
      go_ret
      exact ⟨rfl, HW.out⟩
end Go.Proofs.Ytpdhdogllejdbaa
