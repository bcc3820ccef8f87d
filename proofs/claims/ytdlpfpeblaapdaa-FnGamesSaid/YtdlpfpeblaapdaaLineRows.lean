/- Lists of lines in memory: append of one line; the three helpers of the exact laws: equal lists are found equal; the marks are written into an owned list; the marks are found again. Of owned lists of at most 1048576 lines. -/
import Derived.Test.YtdlpfpeblaapdaaProg
import Derived.Test.YtdlpfpeblaapdaaBase
import Derived.Test.YtdlpfpeblaapdaaLines
import Derived.Test.YtdlpfpeblaapdaaRowsInt
import Derived.Test.YtdlpfpeblaapdaaScript
import Derived.WalkKit
import Derived.WalkSpells
import Derived.BigQuiet
import Derived.Deep.QuietTactic
import Derived.Deep.Draws
import Derived.Lib.Hide
import Derived.Lib.SmallJoins
namespace Go.Proofs.Ytdlpfpeblaapdaa
open Go.RowKit
set_option linter.unusedVariables false
set_option linter.unusedSimpArgs false
/-- append(v, l) of one line, v owned: the one block with l has just been laid. -/
theorem wpList_append_line {P : Program} {ops : Array Oper} {rest : List Oper} {o : Oper} {a : Act} {Q : Exit → Act → World → Prop} {w0 : World} {f v0 t0 : Int} (hgd : o.guard = none) (s y : Operand) (t : TypeId)
    (ho : o.op = .call { callee := .builtin .append, args := #[s, y], argTypes := #[t, t] })
    (base : Nat) (e : TypeId) (i : TypeInfo) (z : Value) (ht : P.underlying t = some (.slice e)) (hi : P.info? e = some i) (hz : i.zero = some z)
    (hsize : i.size = 3) (hby : i.bytes = 24) (hzs : z.cells.size = 3)
    (v : Value) (n : Nat) (xs : List Ln) (hs : a.eval s = v) (hown : w0.ownsRow base e 3 v n (lv xs))
    (H : Nat) (hH : w0.heap.size = H) (hx : a.eval y = .slice (some ⟨H, 0, none⟩) 1 1) (hn : n ≤ 1000000000) (hbase : base ≤ w0.heap.size)
    (h : ∀ g cap w', w'.ownsRow base e 3 (.slice (some ⟨g, 0, none⟩) (n + 1) cap) (n + 1) (lv (xs ++ [(f, v0, t0)])) → (w0.alloc (.cells #[.int .i64 f, .int .i64 v0, .int .i64 t0] e)).grownBy w' v.ownBlock → Below base w0 w' → (v.ownBlock = some g ∨ g = H + 1) → wpList P ops Q rest (a.put o.dst (.slice (some ⟨g, 0, none⟩) (n + 1) cap)) w') :
    wpList P ops Q (o :: rest) a (w0.alloc (.cells #[.int .i64 f, .int .i64 v0, .int .i64 t0] e)) := by
  subst hH
  have hnb : (n + 1) * 24 ≤ 140737488355328 := by omega
  refine wpList_append_lies _ hgd s y t ho base e i z 3 24 ht hi hz hsize hby hzs (by decide) v n (lv xs) hs (hown.alloc _) ⟨w0.heap.size, 0, none⟩ 1 1 (lnC (f, v0, t0)) hx rfl
    (World.news_of_block (cs := #[.int .i64 f, .int .i64 v0, .int .i64 t0]) (t := e) (fr := (0, 0)) (heap_alloc_new w0 _)) (by intro u hu; simp [lnC] at hu; rcases hu with rfl | rfl | rfl <;> rfl) Nat.one_pos (by unfold maxLen; omega) hnb (by simp; omega) _ rfl ?_
  intro g cap w' h2 h3 h4 _
  refine h g cap w' (by rw [lv_append, lv_one]; exact h2) h3 (((Below.refl base w0).alloc hbase _).grown h3 (by simp; omega) (fun k hk => (hown.lt k hk).1)) (by simpa using h4)
theorem lines_form {w : World} {b n : Nat} {e : TypeId} {v : Value} {xs : List Value} (h : w.ownsRow b e 3 v n xs) : ∃ a c, v = .slice a n c := by
  rcases Go.Joins.ownsRow_forms h with ⟨rfl, h0⟩ | ⟨g, cap, rfl⟩
  · exact ⟨none, 0, by rw [h0]⟩
  · exact ⟨_, _, rfl⟩
theorem line_cells {w : World} {b n g c : Nat} {e : TypeId} {xs : List Ln} (h : w.ownsRow b e 3 (.slice (some ⟨g, 0, none⟩) n c) n (lv xs)) (hn : xs.length = n) {k : Nat} {l : Ln} (hk : xs[k]? = some l) :
    w.cell? ⟨g, k * 3, none⟩ = some (.int .i64 l.1) ∧ w.cell? ⟨g, k * 3 + 1, none⟩ = some (.int .i64 l.2.1) ∧ w.cell? ⟨g, k * 3 + 2, none⟩ = some (.int .i64 l.2.2) := by
  obtain ⟨hlt, _⟩ := List.getElem?_eq_some_iff.1 hk
  obtain ⟨h1, h2, h3⟩ := lv_get hk
  refine ⟨?_, ?_, ?_⟩
  · rw [h.cellAt _ (by omega)]; exact h1
  · rw [h.cellAt _ (by omega)]; exact h2
  · rw [h.cellAt _ (by omega)]; exact h3
set_option maxRecDepth 100000 in
theorem eqLn (f o t : Int) (w : World) : Calls Try.prog 46 #[.agg #[.int .i64 f, .int .i64 o, .int .i64 t], .agg #[.int .i64 f, .int .i64 o, .int .i64 t]] w fun e w' => e = .returned (.bool true) ∧ Below w.heap.size w w' := by
  go_enter Try.func46, Try.ntmps46
  go_wp2_with fail
  go_ret
  exact ⟨rfl, ((Below.refl _ _).alloc (Nat.le_refl _) _).alloc (by simp) _⟩
set_option maxRecDepth 100000 in
theorem eqLines_none {b1 b2 : Nat} (va vb : Value) (w : World) (ha : w.ownsRow b1 58 3 va 0 []) (hb : w.ownsRow b2 58 3 vb 0 []) :
    Calls Try.prog 21 #[va, vb] w fun e w' => e = .returned (.bool true) ∧ Below w.heap.size w w' := by
  obtain ⟨a, c, rfl⟩ := lines_form ha
  obtain ⟨a', c', rfl⟩ := lines_form hb
  clear ha hb
  go_enter Try.func21, Try.ntmps21
  go_wp2
  go_loop [5, 11, 12, 13, 14] (fun i _ _ _ _ => i = .int .i64 0) (fun _ _ _ _ _ => 0)
  case atStart => rfl
  case round =>
    subst hrel
    go_wp2
    go_ret
    exact ⟨rfl, Below.refl _ _⟩
set_option maxHeartbeats 1000000 in
set_option maxRecDepth 100000 in
theorem eqLines_some {b1 b2 ga gb n ca cb : Nat} (xs : List Ln) (w : World) (hn : xs.length = n) (hx : n ≤ 1048576)
    (ha : w.ownsRow b1 58 3 (.slice (some ⟨ga, 0, none⟩) n ca) n (lv xs)) (hb : w.ownsRow b2 58 3 (.slice (some ⟨gb, 0, none⟩) n cb) n (lv xs)) :
    Calls Try.prog 21 #[.slice (some ⟨ga, 0, none⟩) n ca, .slice (some ⟨gb, 0, none⟩) n cb] w fun e w' => e = .returned (.bool true) ∧ Below w.heap.size w w' := by
  have HN := Lib.hid hn; clear hn
  have HA := Lib.hid ha; clear ha
  have HB := Lib.hid hb; clear hb
  go_enter Try.func21, Try.ntmps21
  go_wp2
  go_loopw [5] (fun i wr => ∃ k : Nat, k ≤ n ∧ i = .int .i64 k ∧ Hid (Below w.heap.size w wr)) (fun i _ => n - (intOf i).toNat)
  case atStart => exact ⟨0, Nat.zero_le _, rfl, Below.refl _ _⟩
  case round =>
    obtain ⟨k, hk, rfl, hw⟩ := hrel
    by_cases hlt : k < n
    · have h0 : (0 : Int) ≤ (k : Int) := by omega
      have h1 : (k : Int) < (n : Int) := by omega
      obtain ⟨⟨f, o, t⟩, hxk⟩ : ∃ x, xs[k]? = some x := ⟨_, List.getElem?_eq_getElem (by rw [HN.out]; exact hlt)⟩
      have HC : Hid (∀ w', After wr w' → w'.cell? ⟨ga, k * 3, none⟩ = some (.int .i64 f) ∧ w'.cell? ⟨ga, k * 3 + 1, none⟩ = some (.int .i64 o) ∧ w'.cell? ⟨ga, k * 3 + 2, none⟩ = some (.int .i64 t) ∧ w'.cell? ⟨gb, k * 3, none⟩ = some (.int .i64 f) ∧ w'.cell? ⟨gb, k * 3 + 1, none⟩ = some (.int .i64 o) ∧ w'.cell? ⟨gb, k * 3 + 2, none⟩ = some (.int .i64 t)) := fun w' hA => by
        obtain ⟨a1, a2, a3⟩ := line_cells (own_below (own_below HA.out hw.out) hA) HN.out hxk
        obtain ⟨c1, c2, c3⟩ := line_cells (own_below (own_below HB.out hw.out) hA) HN.out hxk
        exact ⟨a1, a2, a3, c1, c2, c3⟩
      clear hxk
      go_wp2_with fail
      refine wp_region_script (by kernel_rfl) (by kernel_rfl) ?_
      refine Script.load (i := 0) (v := ?_) rfl (by kernel_rfl) (by kernel_rfl) (fun _ _ _ h => h) (by kernel_rfl) ?_ ?_
      rotate_left
      · (intro wS hSw; have hF := HC.out wS (After.trans (After.drew (After.refl _)) hSw); go_simp; try with_reducible rfl)
      try simp only [Act.put, List.getElem_toArray, List.getElem_cons_succ, List.getElem_cons_zero, List.setIfInBounds_toArray, List.set_cons_zero, List.set_cons_succ]
      refine Script.load (i := 1) (v := ?_) rfl (by kernel_rfl) (by kernel_rfl) (fun _ _ _ h => h) (by kernel_rfl) ?_ ?_
      rotate_left
      · (intro wS hSw; have hF := HC.out wS (After.trans (After.drew (After.refl _)) hSw); go_simp; try with_reducible rfl)
      try simp only [Act.put, List.getElem_toArray, List.getElem_cons_succ, List.getElem_cons_zero, List.setIfInBounds_toArray, List.set_cons_zero, List.set_cons_succ]
      refine Script.load (i := 2) (v := ?_) rfl (by kernel_rfl) (by kernel_rfl) (fun _ _ _ h => h) (by kernel_rfl) ?_ ?_
      rotate_left
      · (intro wS hSw; have hF := HC.out wS (After.trans (After.drew (After.refl _)) hSw); go_simp; try with_reducible rfl)
      try simp only [Act.put, List.getElem_toArray, List.getElem_cons_succ, List.getElem_cons_zero, List.setIfInBounds_toArray, List.set_cons_zero, List.set_cons_succ]
      refine Script.load (i := 3) (v := ?_) rfl (by kernel_rfl) (by kernel_rfl) (fun _ _ _ h => h) (by kernel_rfl) ?_ ?_
      rotate_left
      · (intro wS hSw; have hF := HC.out wS (After.trans (After.drew (After.refl _)) hSw); go_simp; try with_reducible rfl)
      try simp only [Act.put, List.getElem_toArray, List.getElem_cons_succ, List.getElem_cons_zero, List.setIfInBounds_toArray, List.set_cons_zero, List.set_cons_succ]
      refine Script.load (i := 4) (v := ?_) rfl (by kernel_rfl) (by kernel_rfl) (fun _ _ _ h => h) (by kernel_rfl) ?_ ?_
      rotate_left
      · (intro wS hSw; have hF := HC.out wS (After.trans (After.drew (After.refl _)) hSw); go_simp; try with_reducible rfl)
      try simp only [Act.put, List.getElem_toArray, List.getElem_cons_succ, List.getElem_cons_zero, List.setIfInBounds_toArray, List.set_cons_zero, List.set_cons_succ]
      refine Script.load (i := 5) (v := ?_) rfl (by kernel_rfl) (by kernel_rfl) (fun _ _ _ h => h) (by kernel_rfl) ?_ ?_
      rotate_left
      · (intro wS hSw; have hF := HC.out wS (After.trans (After.drew (After.refl _)) hSw); go_simp; try with_reducible rfl)
      try simp only [Act.put, List.getElem_toArray, List.getElem_cons_succ, List.getElem_cons_zero, List.setIfInBounds_toArray, List.set_cons_zero, List.set_cons_succ]
      refine Script.load (i := 6) (v := ?_) rfl (by kernel_rfl) (by kernel_rfl) (fun _ _ _ h => h) (by kernel_rfl) ?_ ?_
      rotate_left
      · (intro wS hSw; have hF := HC.out wS (After.trans (After.drew (After.refl _)) hSw); go_simp; try with_reducible rfl)
      try simp only [Act.put, List.getElem_toArray, List.getElem_cons_succ, List.getElem_cons_zero, List.setIfInBounds_toArray, List.set_cons_zero, List.set_cons_succ]
      refine Script.load (i := 7) (v := ?_) rfl (by kernel_rfl) (by kernel_rfl) (fun _ _ _ h => h) (by kernel_rfl) ?_ ?_
      rotate_left
      · (intro wS hSw; have hF := HC.out wS (After.trans (After.drew (After.refl _)) hSw); go_simp; try with_reducible rfl)
      try simp only [Act.put, List.getElem_toArray, List.getElem_cons_succ, List.getElem_cons_zero, List.setIfInBounds_toArray, List.set_cons_zero, List.set_cons_succ]
      refine Script.call (i := 8) (v := ?_) rfl (by kernel_rfl) (by kernel_rfl) (fun _ _ _ h => h) (by kernel_rfl) ?_ ?_
      rotate_left
      · (intro wS hSw K hK; have hF := HC.out wS (After.trans (After.drew (After.refl _)) hSw); go_simp; go_at_call 46; refine (eqLn _ _ _ _).mono ?_; rintro e wc ⟨rfl, hbc⟩; exact hK.out _ hbc)
      try simp only [Act.put, List.getElem_toArray, List.getElem_cons_succ, List.getElem_cons_zero, List.setIfInBounds_toArray, List.set_cons_zero, List.set_cons_succ]
      refine Script.load (i := 9) (v := ?_) rfl (by kernel_rfl) (by kernel_rfl) (fun _ _ _ h => h) (by kernel_rfl) ?_ ?_
      rotate_left
      · (intro wS hSw; have hF := HC.out wS (After.trans (After.drew (After.refl _)) hSw); go_simp; try with_reducible rfl)
      try simp only [Act.put, List.getElem_toArray, List.getElem_cons_succ, List.getElem_cons_zero, List.setIfInBounds_toArray, List.set_cons_zero, List.set_cons_succ]
      refine Script.done (by kernel_rfl) ?_
      intro wD hD hG
      have hw2 : Hid (Below w.heap.size w wD) := hw.out.trans ((After.trans (After.drew (After.refl wr)) hD).mono hw.out.size)
      clear hD HC hw
      go_wp2_with fail
      go_roundw
      case rel => exact ⟨k + 1, by omega, by go_num, hw2⟩
      case measure => simp [intOf]; omega
    · go_wp2
      go_ret
      exact ⟨rfl, hw.out⟩
theorem eqLines {b1 b2 n : Nat} (va vb : Value) (xs : List Ln) (w : World) (hn : xs.length = n) (hx : n ≤ 1048576) (ha : w.ownsRow b1 58 3 va n (lv xs)) (hb : w.ownsRow b2 58 3 vb n (lv xs)) :
    Calls Try.prog 21 #[va, vb] w fun e w' => e = .returned (.bool true) ∧ Below w.heap.size w w' := by
  by_cases h0 : n = 0
  · subst h0
    obtain rfl : xs = [] := List.eq_nil_of_length_eq_zero hn
    exact eqLines_none va vb w ha hb
  · rcases Go.Joins.ownsRow_forms ha with ⟨_, h⟩ | ⟨g, cap, rfl⟩
    · exact absurd h h0
    · rcases Go.Joins.ownsRow_forms hb with ⟨_, h⟩ | ⟨g', cap', rfl⟩
      · exact absurd h h0
      · exact eqLines_some xs w hn hx ha hb
/-- One more mark. -/
theorem vset_mark (l : List Value) (K m : Nat) (h : m < l.length) :
    (iv (imarks K m) ++ l.drop m).set m (.int .i64 ((K + m : Nat) : Int)) = iv (imarks K (m + 1)) ++ l.drop (m + 1) := by
  obtain ⟨x, hd⟩ : ∃ x, l.drop m = x :: l.drop (m + 1) := ⟨_, List.drop_eq_getElem_cons h⟩
  rw [hd, imarks_succ]
  generalize l.drop (m + 1) = r
  unfold iv
  rw [List.map_append, List.set_append_right _ _ (by simp [imarks_length])]
  simp [imarks_length]
def LMarked (b K n : Nat) (v : Value) (w : World) (e : Ending) (w' : World) : Prop :=
  e = .returned (.int .i64 (K + n * 3 : Nat)) ∧ w'.ownsRow b 58 3 v n (iv (imarks K (n * 3))) ∧ w.grownBy w' v.ownBlock
set_option maxRecDepth 100000 in
theorem markLines_none {b : Nat} (v : Value) (w : World) (K : Nat) (ha : w.ownsRow b 58 3 v 0 []) :
    Calls Try.prog 24 #[v, .int .i64 K] w (LMarked b K 0 v w) := by
  have hp : LMarked b K 0 v w (.returned (.int .i64 (K + 0 : Nat))) w := ⟨rfl, ha, World.grownBy.refl _ _⟩
  have HP := Lib.hid hp; clear hp
  obtain ⟨a, c, rfl⟩ := lines_form ha
  clear ha
  go_enter Try.func24, Try.ntmps24
  go_wp2
  go_loop [1, 5] (fun t i => i = .int .i64 0 ∧ t = .int .i64 K) (fun _ _ => 0)
  case atStart => exact ⟨rfl, rfl⟩
  case round =>
    obtain ⟨rfl, rfl⟩ := hrel
    go_wp2
    go_ret
    exact HP.out
theorem own_cells3 {w : World} {b g n c k : Nat} {xs : List Value} (h : w.ownsRow b 58 3 (.slice (some ⟨g, 0, none⟩) n c) n xs) (hk : k < n) (hK : xs.length = n * 3) : ∃ v0 v1 v2, w.cell? ⟨g, k * 3, none⟩ = some v0 ∧ w.cell? ⟨g, k * 3 + 1, none⟩ = some v1 ∧ w.cell? ⟨g, k * 3 + 2, none⟩ = some v2 := by
  refine ⟨xs[k * 3]'(by omega), xs[k * 3 + 1]'(by omega), xs[k * 3 + 2]'(by omega), ?_, ?_, ?_⟩
  · rw [h.cellAt _ (by omega)]; exact List.getElem?_eq_getElem (by omega)
  · rw [h.cellAt _ (by omega)]; exact List.getElem?_eq_getElem (by omega)
  · rw [h.cellAt _ (by omega)]; exact List.getElem?_eq_getElem (by omega)
/-- Three marks more. -/
theorem mark_three {w : World} {b g n c K k : Nat} {l : List Value} (hl : l.length = n * 3) (hk : k < n) (h : w.ownsRow b 58 3 (.slice (some ⟨g, 0, none⟩) n c) n (iv (imarks K (k * 3)) ++ l.drop (k * 3))) :
    (((w.setCell ⟨g, k * 3, none⟩ (.int .i64 ((K + k * 3 : Nat) : Int))).setCell ⟨g, k * 3 + 1, none⟩ (.int .i64 ((K + (k * 3 + 1) : Nat) : Int))).setCell ⟨g, k * 3 + 2, none⟩ (.int .i64 ((K + (k * 3 + 2) : Nat) : Int))).ownsRow b 58 3 (.slice (some ⟨g, 0, none⟩) n c) n (iv (imarks K ((k + 1) * 3)) ++ l.drop ((k + 1) * 3)) ∧
    w.grownBy (((w.setCell ⟨g, k * 3, none⟩ (.int .i64 ((K + k * 3 : Nat) : Int))).setCell ⟨g, k * 3 + 1, none⟩ (.int .i64 ((K + (k * 3 + 1) : Nat) : Int))).setCell ⟨g, k * 3 + 2, none⟩ (.int .i64 ((K + (k * 3 + 2) : Nat) : Int))) (some g) := by
  have h1 := h.stored (k * 3) (.int .i64 ((K + k * 3 : Nat) : Int))
  rw [vset_mark l K (k * 3) (by omega)] at h1
  have h2 := h1.1.stored (k * 3 + 1) (.int .i64 ((K + (k * 3 + 1) : Nat) : Int))
  rw [vset_mark l K (k * 3 + 1) (by omega)] at h2
  have h3 := h2.1.stored (k * 3 + 2) (.int .i64 ((K + (k * 3 + 2) : Nat) : Int))
  rw [show k * 3 + 1 + 1 = k * 3 + 2 from rfl, vset_mark l K (k * 3 + 2) (by omega)] at h3
  rw [show (k + 1) * 3 = k * 3 + 2 + 1 from by omega]
  exact ⟨h3.1, h1.2.trans (h2.2.trans h3.2)⟩
set_option maxHeartbeats 1000000 in
set_option maxRecDepth 100000 in
theorem markLines_some {b g n c : Nat} (l : List Value) (w : World) (K : Nat) (hK : K ≤ 1000000000) (hn : l.length = n * 3) (hx : n ≤ 1048576)
    (ha : w.ownsRow b 58 3 (.slice (some ⟨g, 0, none⟩) n c) n l) :
    Calls Try.prog 24 #[.slice (some ⟨g, 0, none⟩) n c, .int .i64 K] w (LMarked b K n (.slice (some ⟨g, 0, none⟩) n c) w) := by
  have HN := Lib.hid hn; clear hn
  have HA := Lib.hid ha; clear ha
  go_enter Try.func24, Try.ntmps24
  go_wp2
  go_loopw [1, 5] (fun t i wr => ∃ k : Nat, k ≤ n ∧ i = .int .i64 k ∧ t = .int .i64 (K + k * 3 : Nat) ∧ Hid (wr.ownsRow b 58 3 (.slice (some ⟨g, 0, none⟩) n c) n (iv (imarks K (k * 3)) ++ l.drop (k * 3))) ∧ Hid (w.grownBy wr (some g))) (fun _ i _ => n - (intOf i).toNat)
  case atStart => exact ⟨0, Nat.zero_le _, rfl, rfl, HA, World.grownBy.refl _ _⟩
  case round =>
    obtain ⟨k, hk, rfl, rfl, HO, hg⟩ := hrel
    by_cases hlt : k < n
    · have h0 : (0 : Int) ≤ (k : Int) := by omega
      have h1 : (k : Int) < (n : Int) := by omega
      obtain ⟨v0, v1, v2, c0, c1, c2⟩ := own_cells3 HO.out hlt (by simp [iv, imarks_length, HN.out]; omega)
      have f0 := HO.out.frozenAt (k * 3)
      have f1 := HO.out.frozenAt (k * 3 + 1)
      have f2 := HO.out.frozenAt (k * 3 + 2)
      have hst := mark_three HN.out hlt HO.out
      have HG := Lib.hid (hg.out.trans hst.2)
      have HST := Lib.hid hst.1; clear hst
      go_wp2
      go_roundw
      case rel => exact ⟨k + 1, by omega, by go_num, by go_num, HST, HG⟩
      case measure => simp [intOf]; omega
    · obtain rfl : k = n := by omega
      have hown' : Hid (wr.ownsRow b 58 3 (.slice (some ⟨g, 0, none⟩) k c) k (iv (imarks K (k * 3)))) := by
        have := HO.out
        unfold Hid
        rw [List.drop_of_length_le (by rw [HN.out]; exact Nat.le_refl _), List.append_nil] at this; exact this
      clear HO
      go_wp2
      go_ret
      exact ⟨rfl, hown'.out, hg.out⟩
theorem markLines {b n : Nat} (v : Value) (l : List Value) (w : World) (K : Nat) (hK : K ≤ 1000000000) (hn : l.length = n * 3) (hx : n ≤ 1048576) (ha : w.ownsRow b 58 3 v n l) :
    Calls Try.prog 24 #[v, .int .i64 K] w (LMarked b K n v w) := by
  by_cases h0 : n = 0
  · subst h0
    obtain rfl : l = [] := List.eq_nil_of_length_eq_zero (by omega)
    exact markLines_none v w K ha
  · rcases Go.Joins.ownsRow_forms ha with ⟨_, h⟩ | ⟨g, cap, rfl⟩
    · exact absurd h h0
    · exact markLines_some l w K hK hn hx ha
theorem mark_cells {w : World} {b g n c K k : Nat} (h : w.ownsRow b 58 3 (.slice (some ⟨g, 0, none⟩) n c) n (iv (imarks K (n * 3)))) (hk : k < n) :
    w.cell? ⟨g, k * 3, none⟩ = some (.int .i64 ((K : Int) + (k : Int) * 3)) ∧ w.cell? ⟨g, k * 3 + 1, none⟩ = some (.int .i64 ((K : Int) + (k : Int) * 3 + 1)) ∧ w.cell? ⟨g, k * 3 + 2, none⟩ = some (.int .i64 ((K : Int) + (k : Int) * 3 + 2)) := by
  have e : ∀ j, j < n * 3 → (iv (imarks K (n * 3)))[j]? = some (.int .i64 ((K + j : Nat) : Int)) := fun j hj => by simp [iv, imarks, hj]
  refine ⟨?_, ?_, ?_⟩
  · rw [h.cellAt _ (by omega), e _ (by omega)]; simp
  · rw [h.cellAt _ (by omega), e _ (by omega)]; simp; omega
  · rw [h.cellAt _ (by omega), e _ (by omega)]; simp; omega
end Go.Proofs.Ytdlpfpeblaapdaa
