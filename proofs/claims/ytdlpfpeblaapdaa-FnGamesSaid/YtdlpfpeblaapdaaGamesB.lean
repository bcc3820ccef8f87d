/- slices.Clone and slices.Reverse at lists of lines, UndoAll of the program. Of lists of at most 1048576 lines. -/
import Derived.Test.YtdlpfpeblaapdaaGamesA
import Derived.BigRegion
import Derived.Lib.SliceRun
namespace Go.Proofs.Ytdlpfpeblaapdaa
open Go.RowKit
set_option linter.unusedVariables false
set_option linter.unusedSimpArgs false
theorem news_of_row {w : World} {b g n c j : Nat} {T : TypeId} {L : List Value} {u : Value} (h : w.ownsRow b T 3 (.slice (some ⟨g, 0, none⟩) n c) n L) (hu : L[j]? = some u) : w.cell? ((⟨g, 0, none⟩ : Addr).add j) = some u := by
  have hadd : (⟨g, 0, none⟩ : Addr).add j = ⟨g, j, none⟩ := by unfold Addr.add; split <;> simp_all
  have hl : L.length = n * 3 := h.1
  have hj := (List.getElem?_eq_some_iff.1 hu).1
  rw [hadd, h.cellAt j (by omega)]
  exact hu
set_option maxHeartbeats 1000000 in
set_option maxRecDepth 100000 in
theorem cloneLines (xs : List Ln) {n B gc : Nat} {ga : Option Addr} (hn : xs.length = n) (hx : n ≤ 1048576) (w : World) (ho : w.ownsRow B 58 3 (.slice ga n gc) n (lv xs)) :
    Calls Try.prog 37 #[.slice ga n gc] w (OwnLines xs w) := by
  obtain ⟨i0, hi, hz0, hz1, hz2⟩ : ∃ i, Try.prog.info? 58 = some i ∧ i.zero = some (.agg #[.int .i64 0, .int .i64 0, .int .i64 0]) ∧ i.size = 3 ∧ i.bytes = 24 := ⟨_, by rfl, by rfl, by rfl, by rfl⟩
  rcases Go.Joins.ownsRow_forms ho with ⟨h1, h2⟩ | ⟨g, cap, h1⟩
  · injection h1 with e1 e2 e3
    subst e1 e3
    subst h2
    obtain rfl : xs = [] := List.eq_nil_of_length_eq_zero hn
    clear ho hn hx e2
    have hnil : ∀ w : World, (binOp .eql 26 (.slice none 0 0) (.slice none 0 0)).run Try.prog w = .ok (.bool true) w := fun w => Lib.run_eql_slice_nil w _ _ none 0 0 0 0 Try.underlying26
    go_enter Try.func37, Try.ntmps37
    go_wp2_with fail
    go_ret
    exact ⟨_, rfl, World.ownsRow_nil _ _ _ _, Below.refl _ _⟩
  · injection h1 with e1 e2 e3
    subst e1 e3
    have HE : Hid (Held (w.alloc (.cells #[] 58)) w.heap.size (.slice (some ⟨w.heap.size, 0, none⟩) 0 0) 0 []) := ⟨rfl, World.ownsRow_made w #[] 0 (Nat.le_refl _) (by unfold maxLen; omega) rfl⟩
    have HO := Lib.hid (own_below ho ((Below.refl _ _).alloc (Nat.le_refl _) (.cells #[] 58)))
    have HB : Hid (Below w.heap.size w (w.alloc (.cells #[] 58))) := (Below.refl _ _).alloc (Nat.le_refl _) _
    have hsz : Hid (w.heap.size ≤ (w.alloc (.cells #[] 58)).heap.size) := by unfold Hid; simp
    have HN := Lib.hid hn
    have hnil : ∀ w : World, (binOp .eql 26 (.slice (some ⟨g, 0, none⟩) n gc) (.slice none 0 0)).run Try.prog w = .ok (.bool false) w := fun w => Lib.run_eql_slice_nil w _ _ (some ⟨g, 0, none⟩) n gc 0 0 Try.underlying26
    by_cases h0 : n = 0
    · subst h0
      obtain rfl : xs = [] := List.eq_nil_of_length_eq_zero hn
      clear ho hn hx
      go_enter Try.func37, Try.ntmps37
      go_wp2_with fail
      generalize w.alloc (.cells #[] 58) = W1 at *
      go_ret
      exact ⟨_, rfl, HE.out.2, HB.out⟩
    · have hm : 0 < n := by omega
      clear ho hn h0
      go_enter Try.func37, Try.ntmps37
      go_wp2_with (at_builtin; refine wpList_append_lies _ rfl (.tmp 5) (.tmp 6) 26 rfl w.heap.size 58 i0 (.agg #[.int .i64 0, .int .i64 0, .int .i64 0]) 3 24 Try.underlying26 hi hz0 hz1 hz2 rfl (by decide) _ 0 [] rfl HE.out.2 ⟨g, 0, none⟩ n gc (lv xs) rfl (by rw [lv_length, HN.out]) (fun j u hu => news_of_row HO.out hu) (lv_cells xs) hm (by unfold maxLen; omega) (by omega) hsz.out _ rfl ?_; intro g' cap' w2 hown hgrow _ _)
      have HF : Hid (OwnLines xs w (.returned (.slice (some ⟨g', 0, none⟩) n cap')) w2) := by
        refine ⟨_, rfl, ?_, HB.out.grown hgrow hsz.out (fun j hj => by cases hj; exact Nat.le_refl _)⟩
        rw [HN.out]
        simpa using hown
      clear hown hgrow
      go_wp2_with fail
      go_ret
      exact HF.out
theorem grown_drewL {w w' : World} {r : Option Nat} (h : w.grownBy w' r) : w.grownBy w'.drew r := ⟨h.os, h.tape, h.output, h.size, h.block⟩
/-- A list whose first and last i elements have changed places. -/
def RevAt (xs ys : List Ln) (n i : Nat) : Prop := ys.length = n ∧ ∀ k, k < n → ys[k]? = if k < i ∨ n ≤ k + i then xs[n - 1 - k]? else xs[k]?
theorem RevAt.start {xs : List Ln} {n : Nat} (hn : xs.length = n) : RevAt xs xs n 0 := ⟨hn, fun k hk => by rw [if_neg (by omega)]⟩
theorem RevAt.stop {xs ys : List Ln} {n i : Nat} (hn : xs.length = n) (h : RevAt xs ys n i) (hi : n ≤ i + i + 1) : ys = xs.reverse := by
  refine List.ext_getElem? fun k => ?_
  rcases Nat.lt_or_ge k n with hk | hk
  · rw [h.2 k hk, List.getElem?_reverse (by omega), hn]
    split
    · rfl
    · rw [show n - 1 - k = k by omega]
  · rw [List.getElem?_eq_none (by rw [h.1]; exact hk), List.getElem?_eq_none (by rw [List.length_reverse, hn]; exact hk)]
theorem RevAt.swap {xs ys : List Ln} {n i j : Nat} {x y : Ln} (h : RevAt xs ys n i) (hij : i < j) (hj : j + i + 1 = n) (hx : xs[i]? = some x) (hy : xs[j]? = some y) : RevAt xs ((ys.set i y).set j x) n (i + 1) := by
  refine ⟨by simp [h.1], fun k hk => ?_⟩
  have hl := h.1
  by_cases h1 : k = j
  · subst h1
    rw [if_pos (by omega), show n - 1 - k = i by omega, hx]
    simp [hl, hk]
  · rw [List.getElem?_set_ne (fun e => h1 e.symm)]
    by_cases h2 : k = i
    · subst h2
      rw [if_pos (by omega), show n - 1 - k = j by omega, hy]
      simp [hl, hk]
    · rw [List.getElem?_set_ne (fun e => h2 e.symm), h.2 k hk]
      by_cases h3 : k < i ∨ n ≤ k + i
      · rw [if_pos h3, if_pos (by omega)]
      · rw [if_neg h3, if_neg (by omega)]
def LReversed (b n : Nat) (xs : List Ln) (v : Value) (w : World) (e : Ending) (w' : World) : Prop :=
  e = .returned (.tuple #[]) ∧ w'.ownsRow b 58 3 v n (lv xs.reverse) ∧ w.grownBy w' v.ownBlock
set_option maxHeartbeats 4000000 in
set_option maxRecDepth 100000 in
theorem reverseLines (xs : List Ln) {n B gc : Nat} {ga : Option Addr} (hn : xs.length = n) (hx : n ≤ 1048576) (w : World) (ho : w.ownsRow B 58 3 (.slice ga n gc) n (lv xs)) :
    Calls Try.prog 38 #[.slice ga n gc] w (LReversed B n xs (.slice ga n gc) w) := by
  have HN := Lib.hid hn
  have HO := Lib.hid ho
  have HS := Lib.hid (RevAt.start hn)
  clear ho hn
  go_enter Try.func38, Try.ntmps38
  go_wp2_with fail
  go_loopw [2, 3] (fun a b wr => ∃ (i : Nat) (z : Int) (ys : List Ln), z + i + 1 = n ∧ (i : Int) ≤ z + 1 ∧ a = .int .i64 i ∧ b = .int .i64 z ∧ Hid (RevAt xs ys n i) ∧ Hid (wr.ownsRow B 58 3 (.slice ga n gc) n (lv ys)) ∧ Hid (w.grownBy wr (Value.slice ga n gc).ownBlock)) (fun a b _ => (intOf b + 1).toNat)
  case atStart => exact ⟨0, (n : Int) - 1, xs, by omega, by omega, rfl, by go_num, HS, HO, World.grownBy.refl _ _⟩
  case round =>
    clear HS HO
    obtain ⟨i, z, ys, hz, hiz, rfl, rfl, hrev, HX, hg⟩ := hrel
    by_cases hlt : (i : Int) < z
    · obtain ⟨m, rfl⟩ : ∃ m : Nat, z = m := Int.eq_ofNat_of_zero_le (by omega)
      have him : i < m := by omega
      have hmn : m < n := by omega
      obtain ⟨⟨f, o, t⟩, hl⟩ : ∃ l, xs[i]? = some l := ⟨_, List.getElem?_eq_getElem (by rw [HN.out]; omega)⟩
      obtain ⟨⟨f', o', t'⟩, hl'⟩ : ∃ l, xs[m]? = some l := ⟨_, List.getElem?_eq_getElem (by rw [HN.out]; exact hmn)⟩
      have hyl : ys[i]? = some (f, o, t) := by rw [hrev.out.2 i (by omega), if_neg (by omega)]; exact hl
      have hyl' : ys[m]? = some (f', o', t') := by rw [hrev.out.2 m hmn, if_neg (by omega)]; exact hl'
      have HR := Lib.hid (hrev.out.swap him (by omega) hl hl')
      obtain ⟨g, rfl⟩ := lines_at HX.out hrev.out.1 (by omega)
      obtain ⟨l0, l1, l2⟩ := line_cells HX.out hrev.out.1 hyl
      obtain ⟨d0, d1, d2⟩ := line_cells HX.out hrev.out.1 hyl'
      have f0 := HX.out.frozenAt (i * 3)
      have f1 := HX.out.frozenAt (i * 3 + 1)
      have f2 := HX.out.frozenAt (i * 3 + 2)
      have f3 := HX.out.frozenAt (m * 3)
      have f4 := HX.out.frozenAt (m * 3 + 1)
      have f5 := HX.out.frozenAt (m * 3 + 2)
      have n1 : ¬ i * 3 = m * 3 := by omega
      have k0 : (0 : Int) ≤ (i : Int) := by omega
      have k1 : (i : Int) < (n : Int) := by omega
      have k2 : (0 : Int) ≤ (m : Int) := by omega
      have k3 : (m : Int) < (n : Int) := by omega
      clear hl hl' hyl hyl'
      go_wp2_with fail
      go_big_region
      have hst1 := stored3 HX.out (i * 3) (.int .i64 f') (.int .i64 o') (.int .i64 t')
      rw [← lv_set ys i (f', o', t')] at hst1
      have hst2 := stored3 hst1.1 (m * 3) (.int .i64 f) (.int .i64 o) (.int .i64 t)
      rw [← lv_set (ys.set i (f', o', t')) m (f, o, t)] at hst2
      have HX2 := Lib.hid hst2.1.drew
      have HG2 := Lib.hid (grown_drewL (hg.out.trans (hst1.2.trans hst2.2)))
      have hwm : IntKind.i64.wrap ((m : Int) - 1) = (m : Int) - 1 := IntWalk.i64_in _ (by omega)
      clear hst1 hst2 HX hg f0 f1 f2 f3 f4 f5 l0 l1 l2 d0 d1 d2
      go_wp2_with fail
      go_roundw
      case rel => exact ⟨i + 1, (m : Int) - 1, _, by omega, by omega, by go_num, rfl, HR, HX2, HG2⟩
      case measure => simp [intOf]
    · have hp : Hid (LReversed B n xs (.slice ga n gc) w (.returned (.tuple #[])) wr) := ⟨rfl, by rw [← hrev.out.stop HN.out (by omega)]; exact HX.out, hg.out⟩
      clear HX hg hrev
      go_wp2_with fail
      go_end0
      exact hp.out
set_option maxHeartbeats 1000000 in
set_option maxRecDepth 100000 in
theorem implUnplay (W H Z P : Int) (hP : P ≤ 9223372036854775807) (xs : List Ln) {n B gc : Nat} {ga : Option Addr} (hn : xs.length = n) (hx : n ≤ 1048576) (w : World) (ho : w.ownsRow B 58 3 (.slice ga n gc) n (lv xs)) :
    Calls Try.prog 12 #[.agg #[.int .i64 W, .int .i64 H, .int .i64 Z], .int .i64 P, .slice ga n gc] w (QP (unplayB W H Z P xs) w) := by
  have hnr : xs.reverse.length = n := by rw [List.length_reverse, hn]
  have C1 : Hid (∀ w, w.ownsRow B 58 3 (.slice ga n gc) n (lv xs) → Calls Try.prog 37 #[.slice ga n gc] w (OwnLines xs w)) := fun w ho => cloneLines xs hn hx w ho
  have C2 : Hid (∀ {B' gc : Nat} {ga : Option Addr} w, w.ownsRow B' 58 3 (.slice ga n gc) n (lv xs) → Calls Try.prog 38 #[.slice ga n gc] w (LReversed B' n xs (.slice ga n gc) w)) := fun w ho => reverseLines xs hn hx w ho
  have C3 : Hid (∀ {B' gc : Nat} {ga : Option Addr} w, w.ownsRow B' 58 3 (.slice ga n gc) n (lv xs.reverse) → Calls Try.prog 35 #[.agg #[.int .i64 W, .int .i64 H, .int .i64 Z], .int .i64 P, .slice ga n gc, .func (.func 39) #[] #[]] w (QP (unplayB W H Z P xs) w)) := fun w ho =>
    implPerform _ (backB W H Z) W H Z P hP xs.reverse (fun Q f o t hQ w => implBack W H Z Q f o t hQ w) (fun Q l h => by obtain ⟨x, hx, hb⟩ := back_big h; rw [hx]; omega) (.inr rfl) hnr hx w ho
  have HO := Lib.hid ho
  have HN := Lib.hid hn
  generalize unplayB W H Z P xs = R at *
  clear hP hn hx ho hnr
  go_enter Try.func12, Try.ntmps12
  go_wp2_with fail
  have B0 := Lib.hid (box_newT 25 W H Z w)
  have HO0 := Lib.hid (own_below HO.out ((Below.refl _ _).alloc (Nat.le_refl _) (.cells #[.int .i64 W, .int .i64 H, .int .i64 Z] 25)))
  generalize w.alloc (.cells #[.int .i64 W, .int .i64 H, .int .i64 Z] 25) = W1 at *
  go_wp2_with fail
  refine (C1.out _ HO0.out).mono ?_
  rintro e w1 ⟨v, rfl, hh, hb⟩
  rw [HN.out] at hh
  obtain ⟨ga', gc', rfl⟩ := lines_form hh
  have hW1 : w.heap.size + 1 ≤ W1.heap.size := B0.out.2.2.2.1
  have B1 := Lib.hid (B0.out.later hb)
  have HH := Lib.hid (own_base hh hW1)
  clear hb B0 hh HO HO0 hW1
  go_wp2_with fail
  refine (C2.out _ HH.out).mono ?_
  rintro e w2 ⟨rfl, hh, hg⟩
  have B2 := Lib.hid (B1.out.kept ((Below.refl (w.heap.size + 1) _).grown hg B1.out.2.2.2.1 (fun k hk => (HH.out.lt k hk).1)) (Nat.lt_succ_self _) (Nat.le_succ _))
  have HH2 := Lib.hid hh
  clear hh hg B1 HH
  obtain ⟨c0, c1, c2, hlt, hb1⟩ := B2.out
  go_wp2_with fail
  refine (C3.out _ HH2.out).mono ?_
  rintro e w3 ⟨rfl, hb⟩
  have B3 := Lib.hid (B2.out.later hb)
  clear c0 c1 c2 hlt hb1 hb B2 HH2
  go_wp2_with fail
  go_ret2
  exact ⟨rfl, B3.out.2.2.2.2⟩
end Go.Proofs.Ytdlpfpeblaapdaa
