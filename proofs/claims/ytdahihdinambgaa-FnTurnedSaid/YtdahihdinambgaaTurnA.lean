/- TurnGame of both, UndoAll of the program (by TurnGame) over a list of lines; copy of a whole list of wide elements. Of lists of at most 1048576 lines. -/
import Derived.Test.YtdahihdinambgaaGames
import Derived.Laws.CopyRow
namespace Go.Proofs.Ytdahihdinambgaa
open Go.RowKit
set_option linter.unusedVariables false
set_option linter.unusedSimpArgs false
/-- copy of a whole list of wide elements: both lists have n elements. -/
theorem run_copy_owned {P : Program} {w : World} (dT sT ty elem : TypeId) (size : Nat) (hu : P.underlying dT = some (.slice elem)) (hs : (P.info? elem).map (·.size) = some size) {b B g n cap gc : Nat} {e e' : TypeId} {ga : Option Addr} {xs0 xs : List Value}
    (hd : w.ownsRow b e size (.slice (some ⟨g, 0, none⟩) n cap) n xs0) (hsrc : w.ownsRow B e' size (.slice ga n gc) n xs) (h1 : ∀ v ∈ xs, v.oneCell' = true) :
    ∃ w', (Builtin.copy_ #[dT, sT] ty #[.slice (some ⟨g, 0, none⟩) n cap, .slice ga n gc]).run P w = .ok (goInt n) w' ∧ w'.ownsRow b e size (.slice (some ⟨g, 0, none⟩) n cap) n xs ∧ w.grownBy w' (some g) := by
  cases hq : P.info? elem with
  | none => simp [hq] at hs
  | some i =>
    have hi : i.size = size := by simpa [hq] using hs
    have hl := hsrc.1
    rcases hd.2 with ⟨h', _⟩ | ⟨g', cap', cur, h', hb, hg, hnc, hcm, hcs, htake⟩
    · simp at h'
    · simp only [Value.slice.injEq, Option.some.injEq, Addr.mk.injEq, and_true, true_and] at h'
      obtain ⟨rfl, rfl⟩ := h'
      have hsz : xs.length ≤ cur.size := by rw [hl, hcs]; exact Nat.mul_le_mul_right _ hnc
      have hst := run_storeCells_at P g 0 e xs 0 cur w hg (by simpa using hsz) h1
      refine ⟨_, ?_, ⟨hl, .inr ⟨g, cap, _, rfl, hb, setRow_heap w g cur (cur.toList.take (0 + 0) ++ xs ++ cur.toList.drop (0 + 0 + xs.length)).toArray e _ hg, hnc, hcm, ?_, ?_⟩⟩, ⟨rfl, rfl, rfl, by simp [World.setRow], fun k _ hk => setRow_other w g k _ (fun e => hk (by simp [e]))⟩⟩
      · rcases hsrc.2 with ⟨h2, rfl⟩ | ⟨gs, cs, curs, h2, -⟩
        · injection h2 with e1 e2 e3
          subst e1
          obtain rfl : xs = [] := List.eq_nil_of_length_eq_zero (by rw [hl]; simp)
          simp [Builtin.copy_, run_underlying hu, Builtin.lenOf, Builtin.firstCells, sizeOf, typeInfo, hq, hi, hst]
        · injection h2 with e1 e2 e3
          subst e1
          have hc := run_loadCells_list (P := P) w ⟨gs, 0, none⟩ xs (hsrc.cells rfl)
          rw [hl] at hc
          simp [Builtin.copy_, run_underlying hu, Builtin.lenOf, Builtin.firstCells, sizeOf, typeInfo, hq, hi, hc, hst]
      · simp; omega
      · rw [← hl]; simp
theorem wpList_copy_full {P : Program} {w : World} {ops : Array Oper} {rest : List Oper} {o : Oper} {a : Act} {Q : Exit → Act → World → Prop} (hgd : o.guard = none) (d s : Operand) (dT sT : TypeId)
    (ho : o.op = .call { callee := .builtin .copy, args := #[d, s], argTypes := #[dT, sT] }) (elem : TypeId) (hu : P.underlying dT = some (.slice elem)) (size : Nat) (hsz : (P.info? elem).map (·.size) = some size)
    {b B g n cap gc : Nat} {e e' : TypeId} {ga : Option Addr} {xs0 xs : List Value} (hd : a.eval d = .slice (some ⟨g, 0, none⟩) n cap) (hs : a.eval s = .slice ga n gc)
    (hdo : w.ownsRow b e size (.slice (some ⟨g, 0, none⟩) n cap) n xs0) (hso : w.ownsRow B e' size (.slice ga n gc) n xs) (h1 : ∀ v ∈ xs, v.oneCell' = true)
    (h : ∀ w', w'.ownsRow b e size (.slice (some ⟨g, 0, none⟩) n cap) n xs → w.grownBy w' (some g) → wpList P ops Q rest (a.put o.dst (goInt n)) w') : wpList P ops Q (o :: rest) a w := by
  refine wpList_plain hgd fun K hK => ?_
  obtain ⟨w', hrun, h2, h3⟩ := run_copy_owned (P := P) dT sT o.type elem size hu hsz hdo hso h1
  unfold Oper.wp
  simp [execOp, ho, resolve, invoke, builtin, hd, hs, hrun, Result.andThen]
  exact hK _ _ (h w' h2 h3)
/-- A guard for a law inside the walk: the goal is a list of operations. -/
theorem at_list {P : Program} {w : World} {ops : Array Oper} {rest : List Oper} {o : Oper} {a : Act} {Q : Exit → Act → World → Prop} (h : wpList P ops Q (o :: rest) a w) : wpList P ops Q (o :: rest) a w := h
set_option maxHeartbeats 1000000 in
set_option maxRecDepth 100000 in
theorem implTurnGame (xs : List Ln) {n B gc : Nat} {ga : Option Addr} (hn : xs.length = n) (hx : n ≤ 1048576) (w : World) (ho : w.ownsRow B 60 3 (.slice ga n gc) n (lv xs)) :
    Calls Try.prog 20 #[.slice ga n gc] w (OwnLines xs.reverse w) := by
  obtain ⟨i0, hi, hz0, hz1, hz2⟩ : ∃ i, Try.prog.info? 60 = some i ∧ i.zero = some (.agg #[.int .i64 0, .int .i64 0, .int .i64 0]) ∧ i.size = 3 ∧ i.bytes = 24 := ⟨_, by rfl, by rfl, by rfl, by rfl⟩
  obtain ⟨w3, hmk, hrow, hg3⟩ := run_make_full (P := Try.prog) w w.heap.size 26 60 i0 (.agg #[.int .i64 0, .int .i64 0, .int .i64 0]) 3 Try.underlying26 hi hz0 hz1 .i64 .i64 n (by rw [hz2]; omega) (by unfold maxLen; omega) (Nat.le_refl _)
  have C2 : Hid (∀ {B' gc : Nat} {ga : Option Addr} w, w.ownsRow B' 60 3 (.slice ga n gc) n (lv xs) → Calls Try.prog 51 #[.slice ga n gc] w (LReversed B' n xs (.slice ga n gc) w)) := fun w ho => reverseLines xs hn hx w ho
  have HB3 : Hid (Below w.heap.size w w3) := ⟨hg3.os, hg3.tape, hg3.output, hg3.size, fun j hj => hg3.block j hj (by simp)⟩
  have HX := Lib.hid (own_below ho HB3.out)
  have HR := Lib.hid hrow
  have HN : Hid (xs.reverse.length = n) := by unfold Hid; rw [List.length_reverse, hn]
  obtain ⟨q, hq⟩ : ∃ q, w.heap.size = q := ⟨_, rfl⟩
  have hqs : q ≤ w3.heap.size := by rw [← hq]; exact HB3.out.size
  have HQ := Lib.hid hq
  rw [hq] at hmk HB3 HR
  clear hrow hg3 ho hn hq
  go_enter Try.func20, Try.ntmps20
  go_wp2_with (with_reducible refine at_list ?_; refine wpList_copy_full rfl (.tmp 7) (.tmp 8) 26 26 rfl 60 Try.underlying26 3 (by simp [hi, hz1]) rfl rfl HR.out HX.out (lv_cells xs) ?_; intro w4 hown hgrow)
  have H4 := Lib.hid hown
  have B4 := Lib.hid (HB3.out.grown hgrow hqs (fun j hj => by cases hj; exact Nat.le_refl _))
  have hqs4 : q ≤ w4.heap.size := Nat.le_trans hqs hgrow.size
  clear hown hgrow HB3 HR HX hmk
  go_wp2_with fail
  refine (C2.out _ H4.out).mono ?_
  rintro e w5 ⟨rfl, hh, hg⟩
  have HF : Hid (OwnLines xs.reverse w (.returned (.slice (some ⟨q, 0, none⟩) n n)) w5) := by
    refine ⟨_, rfl, ?_, ?_⟩
    · rw [HN.out, HQ.out]; exact hh
    · rw [HQ.out]; exact B4.out.grown hg hqs4 (fun j hj => by cases hj; exact Nat.le_refl _)
  clear hh hg H4 B4
  go_wp2_with fail
  go_ret
  exact HF.out
set_option maxHeartbeats 1000000 in
set_option maxRecDepth 100000 in
theorem specTurnGame (xs : List Ln) {n B gc : Nat} {ga : Option Addr} (hn : xs.length = n) (hx : n ≤ 1048576) (w : World) (ho : w.ownsRow B 60 3 (.slice ga n gc) n (lv xs)) :
    Calls Try.prog 32 #[.slice ga n gc] w (OwnLines xs.reverse w) := by
  obtain ⟨i0, hi, hz0, hz1, hz2⟩ : ∃ i, Try.prog.info? 60 = some i ∧ i.zero = some (.agg #[.int .i64 0, .int .i64 0, .int .i64 0]) ∧ i.size = 3 ∧ i.bytes = 24 := ⟨_, by rfl, by rfl, by rfl, by rfl⟩
  have HREV : Hid (∀ j m, m + j + 1 = n → xs.reverse[j]? = xs[m]?) := fun j m h => by rw [List.getElem?_reverse (by omega), hn, show n - 1 - j = m by omega]
  have HNR : Hid (xs.reverse.length = n) := by unfold Hid; rw [List.length_reverse, hn]
  have HN := Lib.hid hn
  have HO := Lib.hid ho
  have HL0 : Hid (Held (w.alloc (.cells #[] 60)) w.heap.size (.slice (some ⟨w.heap.size, 0, none⟩) 0 0) 0 []) := ⟨rfl, World.ownsRow_made w #[] 0 (Nat.le_refl _) (by unfold maxLen; omega) rfl⟩
  have HB0 : Hid (Below w.heap.size w (w.alloc (.cells #[] 60))) := (Below.refl _ _).alloc (Nat.le_refl _) _
  obtain ⟨ys, hys⟩ : ∃ ys, xs.reverse = ys := ⟨_, rfl⟩
  rw [hys] at HREV HNR ⊢
  clear hn ho hys
  go_enter Try.func32, Try.ntmps32
  go_wp2_with fail
  generalize w.alloc (.cells #[] 60) = W1 at *
  obtain ⟨q, hq⟩ : ∃ q, w.heap.size = q := ⟨_, rfl⟩
  have HQ := Lib.hid hq
  rw [hq] at HL0 HB0 ⊢
  clear hq
  go_loopw [3, 4] (fun r i wr => ∃ (k : Nat) (z : Int) (v : Value), k ≤ n ∧ z + k + 1 = n ∧ i = .int .i64 z ∧ v = r ∧ Hid (Held wr q v k (ys.take k)) ∧ Hid (Below q w wr)) (fun _ i _ => (intOf i + 1).toNat)
  case atStart => exact ⟨0, (n : Int) - 1, _, by omega, by omega, by go_num, rfl, HL0, HB0⟩
  case round =>
    clear HL0 HB0
    obtain ⟨k, z, v, hk, hz, rfl, rfl, HL, HB⟩ := hrel
    by_cases hkn : k < n
    · obtain ⟨m, rfl⟩ : ∃ m : Nat, z = m := Int.eq_ofNat_of_zero_le (by omega)
      have hmn : m < n := by omega
      obtain ⟨⟨f, o, t⟩, hl⟩ : ∃ l, xs[m]? = some l := ⟨_, List.getElem?_eq_getElem (by rw [HN.out]; exact hmn)⟩
      have HS := Lib.hid (take_one (show ys[k]? = some (f, o, t) by rw [HREV.out k m (by omega)]; exact hl))
      have k0 : (0 : Int) ≤ (m : Int) := by omega
      have k1 : (m : Int) < (n : Int) := by omega
      have HX := own_below HO.out (HQ.out ▸ HB.out)
      obtain ⟨g, rfl⟩ := lines_at HX HN.out (by omega)
      obtain ⟨l0, l1, l2⟩ := line_cells HX HN.out hl
      have hwm : IntKind.i64.wrap ((m : Int) - 1) = (m : Int) - 1 := IntWalk.i64_in _ (by omega)
      have hbz : Hid (q ≤ wr.heap.size) := by unfold Hid; rw [← HQ.out]; exact HB.out.size
      have hln : Hid (k ≤ 1000000000) := by unfold Hid; omega
      clear hl HX
      go_wp2_with (at_builtin; refine wpList_append_line rfl (.tmp 13) (.tmp 18) 26 rfl q 60 i0 (.agg #[.int .i64 0, .int .i64 0, .int .i64 0]) Try.underlying26 hi hz0 hz1 hz2 rfl _ _ (ys.take k) rfl HL.out.2 _ rfl rfl hln.out hbz.out ?_; intro g' cap' w7 hown' hgrow hb2 _)
      have HL7 : Hid (Held w7 q (.slice (some ⟨g', 0, none⟩) (k + 1) cap') (k + 1) (ys.take (k + 1))) := ⟨by rw [List.length_take, HNR.out]; omega, by rw [HS.out]; exact hown'⟩
      have HB7 := Lib.hid (HB.out.trans hb2)
      clear hown' hgrow hb2 HL HB l0 l1 l2 HS
      go_wp2_with fail
      go_roundw
      case rel => exact ⟨k + 1, (m : Int) - 1, _, by omega, by omega, rfl, rfl, HL7, HB7⟩
      case measure => simp [intOf]
    · obtain rfl : k = n := by omega
      obtain rfl : z = -1 := by omega
      have HF : Hid (OwnLines ys w (.returned v) wr) := by
        refine ⟨_, rfl, ?_, ?_⟩
        · have := HL.out.2
          rw [List.take_of_length_le (by rw [HNR.out]; exact Nat.le_refl _)] at this
          rw [HNR.out, HQ.out]; exact this
        · rw [HQ.out]; exact HB.out
      clear HL HB
      go_wp2_with fail
      go_ret
      exact HF.out
set_option maxHeartbeats 1000000 in
set_option maxRecDepth 100000 in
theorem implUnplay (W H Z P : Int) (hP : P ≤ 9223372036854775807) (xs : List Ln) {n B gc : Nat} {ga : Option Addr} (hn : xs.length = n) (hx : n ≤ 1048576) (w : World) (ho : w.ownsRow B 60 3 (.slice ga n gc) n (lv xs)) :
    Calls Try.prog 13 #[.agg #[.int .i64 W, .int .i64 H, .int .i64 Z], .int .i64 P, .slice ga n gc] w (QP (unplayB W H Z P xs) w) := by
  have hnr : xs.reverse.length = n := by rw [List.length_reverse, hn]
  have C1 : Hid (∀ w, w.ownsRow B 60 3 (.slice ga n gc) n (lv xs) → Calls Try.prog 20 #[.slice ga n gc] w (OwnLines xs.reverse w)) := fun w ho => implTurnGame xs hn hx w ho
  have C3 : Hid (∀ {B' gc : Nat} {ga : Option Addr} w, w.ownsRow B' 60 3 (.slice ga n gc) n (lv xs.reverse) → Calls Try.prog 42 #[.agg #[.int .i64 W, .int .i64 H, .int .i64 Z], .int .i64 P, .slice ga n gc, .func (.func 44) #[] #[]] w (QP (unplayB W H Z P xs) w)) := fun w ho =>
    implPerform _ (backB W H Z) W H Z P hP xs.reverse (fun Q f o t hQ w => implBack W H Z Q f o t hQ w) (fun Q l h => by obtain ⟨x, hx, hb⟩ := back_big h; rw [hx]; omega) (.inr rfl) hnr hx w ho
  have HO := Lib.hid ho
  have HN := Lib.hid hnr
  generalize unplayB W H Z P xs = R at *
  clear hP hn hx ho hnr
  go_enter Try.func13, Try.ntmps13
  go_wp2_with fail
  have B0 := Lib.hid (box_newT 25 W H Z w)
  have HO0 := Lib.hid (own_below HO.out ((Below.refl _ _).alloc (Nat.le_refl _) (.cells #[.int .i64 W, .int .i64 H, .int .i64 Z] 25)))
  generalize w.alloc (.cells #[.int .i64 W, .int .i64 H, .int .i64 Z] 25) = W1 at *
  go_wp2_with fail
  refine wp_region_script (by kernel_rfl) (by kernel_rfl) ?_
  refine Script.load (i := 0) (v := ?_) rfl (by kernel_rfl) (by kernel_rfl) (fun _ _ _ h => h) (by kernel_rfl) ?_ ?_
  rotate_left
  · (intro wS hSw; obtain ⟨c0, c1, c2, -, -⟩ := B0.out.later (After.trans (After.drew (After.refl _)) hSw); go_simp; try with_reducible rfl)
  try simp only [Act.put, List.getElem_toArray, List.getElem_cons_succ, List.getElem_cons_zero, List.setIfInBounds_toArray, List.set_cons_zero, List.set_cons_succ]
  refine Script.load (i := 1) (v := ?_) rfl (by kernel_rfl) (by kernel_rfl) (fun _ _ _ h => h) (by kernel_rfl) ?_ ?_
  rotate_left
  · (intro wS hSw; obtain ⟨c0, c1, c2, -, -⟩ := B0.out.later (After.trans (After.drew (After.refl _)) hSw); go_simp; try with_reducible rfl)
  try simp only [Act.put, List.getElem_toArray, List.getElem_cons_succ, List.getElem_cons_zero, List.setIfInBounds_toArray, List.set_cons_zero, List.set_cons_succ]
  refine Script.load (i := 2) (v := ?_) rfl (by kernel_rfl) (by kernel_rfl) (fun _ _ _ h => h) (by kernel_rfl) ?_ ?_
  rotate_left
  · (intro wS hSw; obtain ⟨c0, c1, c2, -, -⟩ := B0.out.later (After.trans (After.drew (After.refl _)) hSw); go_simp; try with_reducible rfl)
  try simp only [Act.put, List.getElem_toArray, List.getElem_cons_succ, List.getElem_cons_zero, List.setIfInBounds_toArray, List.set_cons_zero, List.set_cons_succ]
  refine Script.one (i := 3) rfl (by kernel_rfl) (by kernel_rfl) ?_
  intro wO hO K hK; have hSw := hO; obtain ⟨c0, c1, c2, -, -⟩ := B0.out.later (After.trans (After.drew (After.refl _)) hSw); go_simp
  clear hSw
  go_at_call 20; refine (C1.out _ (own_below HO0.out (After.trans (After.drew (After.refl _)) hO))).mono ?_; rintro e wc ⟨v, rfl, hh, hbc⟩; rw [HN.out] at hh; obtain ⟨ga', gc', rfl⟩ := lines_form hh
  refine hK.out _ _ hbc ?_
  clear hK K
  try simp only [Act.put, List.getElem_toArray, List.getElem_cons_succ, List.getElem_cons_zero, List.setIfInBounds_toArray, List.set_cons_zero, List.set_cons_succ]
  clear c0 c1 c2
  refine Script.call (i := 4) (v := ?_) rfl (by kernel_rfl) (by kernel_rfl) (fun _ _ _ h => h) (by kernel_rfl) ?_ ?_
  rotate_left
  · (intro wS hSw K hK; go_simp; go_at_call 42; refine (C3.out _ (own_below hh hSw)).mono ?_; rintro e wd ⟨rfl, hbd⟩; have hbc := hbd; exact hK.out _ hbc)
  try simp only [Act.put, List.getElem_toArray, List.getElem_cons_succ, List.getElem_cons_zero, List.setIfInBounds_toArray, List.set_cons_zero, List.set_cons_succ]
  refine Script.load (i := 5) (v := ?_) rfl (by kernel_rfl) (by kernel_rfl) (fun _ _ _ h => h) (by kernel_rfl) ?_ ?_
  rotate_left
  · (intro wS hSw; go_simp; try with_reducible rfl)
  try simp only [Act.put, List.getElem_toArray, List.getElem_cons_succ, List.getElem_cons_zero, List.setIfInBounds_toArray, List.set_cons_zero, List.set_cons_succ]
  refine Script.load (i := 6) (v := ?_) rfl (by kernel_rfl) (by kernel_rfl) (fun _ _ _ h => h) (by kernel_rfl) ?_ ?_
  rotate_left
  · (intro wS hSw; go_simp; try with_reducible rfl)
  try simp only [Act.put, List.getElem_toArray, List.getElem_cons_succ, List.getElem_cons_zero, List.setIfInBounds_toArray, List.set_cons_zero, List.set_cons_succ]
  refine Script.load (i := 7) (v := ?_) rfl (by kernel_rfl) (by kernel_rfl) (fun _ _ _ h => h) (by kernel_rfl) ?_ ?_
  rotate_left
  · (intro wS hSw; go_simp; try with_reducible rfl)
  try simp only [Act.put, List.getElem_toArray, List.getElem_cons_succ, List.getElem_cons_zero, List.setIfInBounds_toArray, List.set_cons_zero, List.set_cons_succ]
  refine Script.load (i := 8) (v := ?_) rfl (by kernel_rfl) (by kernel_rfl) (fun _ _ _ h => h) (by kernel_rfl) ?_ ?_
  rotate_left
  · (intro wS hSw; go_simp; try with_reducible rfl)
  try simp only [Act.put, List.getElem_toArray, List.getElem_cons_succ, List.getElem_cons_zero, List.setIfInBounds_toArray, List.set_cons_zero, List.set_cons_succ]
  refine Script.done (by kernel_rfl) ?_
  intro wD hD hG
  have hb6 := After.trans (After.drew (After.refl _)) (After.trans hO (After.trans hbc hD))
  have HF := Lib.hid (B0.out.later hb6).2.2.2.2
  clear hD hG hO hbc hh hb6 B0 HO HO0
  go_wp2_with fail
  go_ret2
  exact ⟨rfl, HF.out⟩
end Go.Proofs.Ytdahihdinambgaa
