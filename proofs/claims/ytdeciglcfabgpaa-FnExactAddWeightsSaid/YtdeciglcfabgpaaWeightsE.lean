/- AddWeights of the model, SumOf of both. Of lists of at most 1048576 ints. -/
import Derived.Test.YtdeciglcfabgpaaWeightsD
import Derived.Test.YtdeciglcfabgpaaBoards
import Derived.Test.YtdeciglcfabgpaaAppend
namespace Go.Proofs.Ytdeciglcfabgpaa
open Go.RowKit
set_option linter.unusedVariables false
set_option linter.unusedSimpArgs false
/-- A list of ints that the call owns, and its length. -/
def RowI (B : Nat) (v : Value) (xs : List Int) (w : World) : Prop := w.ownsRow B 3 1 v xs.length (iv xs)
theorem closed_rowI {B : Nat} {v : Value} {xs : List Int} : Closed (RowI B v xs) := fun _ _ h k => own_below h k
set_option maxHeartbeats 2000000 in
set_option maxRecDepth 100000 in
theorem specAdd_no (W H Z : Int) {a a' : Option Addr} {n c n' c' : Nat} {xs ys : List Int} (w : World) (hx : n ≤ 1048576) (h : IntsAt w a n xs) (hy : n' ≤ 1048576) (h' : IntsAt w a' n' ys) (hw : (wOkB W H Z xs && wOkB W H Z ys) = false) :
    Calls Try.prog 27 #[.agg #[.int .i64 W, .int .i64 H, .int .i64 Z], .slice a n c, .slice a' n' c'] w (OwnIvB ([], false) w) := by
  have C1 := Lib.hid (fun w (hi : IntsAt w a n xs) => specWeightsOk W H Z (c := c) w hx hi)
  have C2 := Lib.hid (fun w (hi : IntsAt w a' n' ys) => specWeightsOk W H Z (c := c') w hy hi)
  have HA := Lib.hid h
  have HA' := Lib.hid h'
  clear h h'
  generalize wOkB W H Z xs = y1 at *
  generalize wOkB W H Z ys = y2 at *
  cases y1
  · clear hw C2
    go_enter Try.func27, Try.ntmps27
    go_wp2_with fail
    have B00 := Lib.hid (box_new W H Z w)
    have hS : (w.alloc (.cells #[.int .i64 W, .int .i64 H, .int .i64 Z] 25)).heap.size = w.heap.size + 1 := by simp
    generalize w.alloc (.cells #[.int .i64 W, .int .i64 H, .int .i64 Z] 25) = W1 at *
    have HL0 : Hid ((W1.alloc (.cells #[] 3)).ownsRow (w.heap.size + 1) 3 1 (.slice (some ⟨w.heap.size + 1, 0, none⟩) 0 0) 0 []) := by
      unfold Hid; rw [← hS]; exact World.ownsRow_made W1 #[] 0 (Nat.le_refl _) (by unfold maxLen; omega) rfl
    have B0 := Lib.hid (B00.out.later ((Below.refl _ _).alloc (Nat.le_refl _) (.cells #[] 3)))
    generalize W1.alloc (.cells #[] 3) = W2 at *
    clear B00 hS
    obtain ⟨c0, c1, c2, hlt, hb1⟩ := B0.out
    go_wp2_with fail
    refine (C1.out _ (HA.out.later hb1)).mono ?_
    rintro e w3 ⟨rfl, hb⟩
    have B3 := Lib.hid (B0.out.later hb)
    have HL3 := Lib.hid (own_below HL0.out hb)
    clear c0 c1 c2 hlt hb1 hb B0 HL0
    have hp : Hid (OwnIvB ([], false) w (.returned (.tuple #[.slice (some ⟨w.heap.size + 1, 0, none⟩) 0 0, .bool false])) w3) := ⟨_, rfl, own_base HL3.out (Nat.le_succ _), B3.out.2.2.2.2⟩
    go_wp2_with fail
    go_ret2
    exact hp.out
  · obtain rfl : y2 = false := by simpa using hw
    clear hw
    go_enter Try.func27, Try.ntmps27
    go_wp2_with fail
    have B00 := Lib.hid (box_new W H Z w)
    have hS : (w.alloc (.cells #[.int .i64 W, .int .i64 H, .int .i64 Z] 25)).heap.size = w.heap.size + 1 := by simp
    generalize w.alloc (.cells #[.int .i64 W, .int .i64 H, .int .i64 Z] 25) = W1 at *
    have HL0 : Hid ((W1.alloc (.cells #[] 3)).ownsRow (w.heap.size + 1) 3 1 (.slice (some ⟨w.heap.size + 1, 0, none⟩) 0 0) 0 []) := by
      unfold Hid; rw [← hS]; exact World.ownsRow_made W1 #[] 0 (Nat.le_refl _) (by unfold maxLen; omega) rfl
    have B0 := Lib.hid (B00.out.later ((Below.refl _ _).alloc (Nat.le_refl _) (.cells #[] 3)))
    generalize W1.alloc (.cells #[] 3) = W2 at *
    clear B00 hS
    obtain ⟨c0, c1, c2, hlt, hb1⟩ := B0.out
    go_wp2_with fail
    refine (C1.out _ (HA.out.later hb1)).mono ?_
    rintro e w3 ⟨rfl, hb⟩
    have B3 := Lib.hid (B0.out.later hb)
    have HL3 := Lib.hid (own_below HL0.out hb)
    clear c0 c1 c2 hlt hb1 hb B0 HL0
    obtain ⟨c0, c1, c2, hlt, hb1⟩ := B3.out
    go_wp2_with fail
    refine (C2.out _ (HA'.out.later hb1)).mono ?_
    rintro e w4 ⟨rfl, hb⟩
    have B4 := Lib.hid (B3.out.later hb)
    have HL4 := Lib.hid (own_below HL3.out hb)
    clear c0 c1 c2 hlt hb1 hb B3 HL3
    have hp : Hid (OwnIvB ([], false) w (.returned (.tuple #[.slice (some ⟨w.heap.size + 1, 0, none⟩) 0 0, .bool false])) w4) := ⟨_, rfl, own_base HL4.out (Nat.le_succ _), B4.out.2.2.2.2⟩
    go_wp2_with fail
    go_ret2
    exact hp.out
set_option maxHeartbeats 2000000 in
set_option maxRecDepth 100000 in
theorem specAdd_yes {W H : Int} {N z : Nat} (ho : Ok W H N z) {a a' : Option Addr} {c c' : Nat} {xs ys : List Int} (w : World) (h : IntsAt w a N xs) (h' : IntsAt w a' N ys) (hw1 : wOkB W H z xs = true) (hw2 : wOkB W H z ys = true) :
    Calls Try.prog 27 #[.agg #[.int .i64 W, .int .i64 H, .int .i64 z], .slice a N c, .slice a' N c'] w (OwnIvB (addB W H z xs ys) w) := by
  have h49 := ho.n49
  have hN20 : N ≤ 1048576 := by omega
  have C1 := Lib.hid (fun w (hi : IntsAt w a N xs) => specWeightsOk W H z (c := c) w hN20 hi)
  have C2 := Lib.hid (fun w (hi : IntsAt w a' N ys) => specWeightsOk W H z (c := c') w hN20 hi)
  rw [hw1] at C1
  rw [hw2] at C2
  have b1 : Bnd N 1000 xs := ⟨h.1, fun k x hk => all_get (wOk_yes hw1).2.2 hk⟩
  have b2 : Bnd N 1000 ys := ⟨h'.1, fun k x hk => all_get (wOk_yes hw2).2.2 hk⟩
  have HSL := Lib.hid (b1.add b2).1
  have HC : Hid (∀ k : Nat, k < N → ∃ b off b' off', ∃ x y : Int, a = some ⟨b, off, none⟩ ∧ a' = some ⟨b', off', none⟩ ∧ (addL xs ys)[k]? = some (x + y) ∧ -1000 ≤ x ∧ x ≤ 1000 ∧ -1000 ≤ y ∧ y ≤ 1000 ∧ ∀ w', Below w.heap.size w w' → w'.cell? ⟨b, off + k, none⟩ = some (.int .i64 x) ∧ w'.cell? ⟨b', off' + k, none⟩ = some (.int .i64 y)) := fun k hk => by
    obtain ⟨b, off, e, hl, hc⟩ := h.cell hk
    obtain ⟨b', off', e', hl', hc'⟩ := h'.cell hk
    have hx := get_wAt (xs := xs) (k := k) (by rw [h.1]; exact hk)
    have hy := get_wAt (xs := ys) (k := k) (by rw [h'.1]; exact hk)
    obtain ⟨x1, x2⟩ := b1.2 k _ hx
    obtain ⟨y1, y2⟩ := b2.2 k _ hy
    exact ⟨b, off, b', off', _, _, e, e', get_addL hx hy, x1, x2, y1, y2, fun w' hb => ⟨(hb.cell hl).trans (hc _ _ hx), (hb.cell hl').trans (hc' _ _ hy)⟩⟩
  have HA := Lib.hid h
  have HA' := Lib.hid h'
  have C4 := Lib.hid (fun (w : World) (ga : Option Addr) (gc : Nat) (hi : IntsAt w ga N (addL xs ys)) => specWeightsOk W H z (c := gc) w hN20 hi)
  have HR : Hid (∀ y, wOkB W H z (addL xs ys) = y → addB W H z xs ys = if y then (addL xs ys, true) else ([], false)) := fun y hy => by
    cases y
    · exact add_far hy
    · exact add_yes (by rw [hw1, hw2]; rfl) hy
  generalize addB W H z xs ys = r at *
  generalize addL xs ys = zs at *
  obtain ⟨y, hyy⟩ : ∃ y, wOkB W H z zs = y := ⟨_, rfl⟩
  rw [hyy] at C4
  have HE := Lib.hid (HR.out y hyy)
  obtain ⟨i0, hi, hz0, hz1, hz2⟩ : ∃ i, Try.prog.info? 3 = some i ∧ i.zero = some (.int .i64 0) ∧ i.size = 1 ∧ i.bytes = 8 := ⟨_, by rfl, by rfl, by rfl, by rfl⟩
  clear h h' hw1 hw2 b1 b2 HR hyy ho
  go_enter Try.func27, Try.ntmps27
  go_wp2_with fail
  have B00 := Lib.hid (box_new W H z w)
  have hS : (w.alloc (.cells #[.int .i64 W, .int .i64 H, .int .i64 (z : Int)] 25)).heap.size = w.heap.size + 1 := by simp
  generalize w.alloc (.cells #[.int .i64 W, .int .i64 H, .int .i64 (z : Int)] 25) = W1 at *
  have HL0 : Hid (RowI (w.heap.size + 1) (.slice (some ⟨w.heap.size + 1, 0, none⟩) 0 0) (zs.take 0) (W1.alloc (.cells #[] 3))) := by
    unfold Hid RowI; rw [← hS]; exact World.ownsRow_made W1 #[] 0 (Nat.le_refl _) (by unfold maxLen; omega) rfl
  have B0 := Lib.hid (B00.out.later ((Below.refl _ _).alloc (Nat.le_refl _) (.cells #[] 3)))
  generalize W1.alloc (.cells #[] 3) = W2 at *
  clear B00 hS
  obtain ⟨c0, c1, c2, hlt, hb1⟩ := B0.out
  go_wp2_with fail
  refine (C1.out _ (HA.out.later hb1)).mono ?_
  rintro e w3 ⟨rfl, hb⟩
  have B3 := Lib.hid (B0.out.later hb)
  have HL3 := Lib.hid (closed_rowI _ _ HL0.out hb)
  clear c0 c1 c2 hlt hb1 hb B0 HL0
  obtain ⟨c0, c1, c2, hlt, hb1⟩ := B3.out
  go_wp2_with fail
  refine (C2.out _ (HA'.out.later hb1)).mono ?_
  rintro e w4 ⟨rfl, hb⟩
  have B4 := Lib.hid (B3.out.later hb)
  have HL4 := Lib.hid (closed_rowI _ _ HL3.out hb)
  clear c0 c1 c2 hlt hb1 hb B3 HL3 C1 C2
  go_wp2_with fail
  go_loopw [8, 9] (fun s i wr => ∃ (k : Nat) (v : Value), k ≤ N ∧ i = .int .i64 k ∧ v = s ∧ Hid (RowI (w.heap.size + 1) v (zs.take k) wr) ∧ Hid (Box w.heap.size W H z w wr)) (fun _ i _ => N - (intOf i).toNat)
  case atStart => exact ⟨0, _, Nat.zero_le _, rfl, rfl, HL4, B4⟩
  case round =>
    clear HL4 B4
    obtain ⟨k, v, hk, rfl, rfl, HR, HB⟩ := hrel
    by_cases hlk : k < N
    · have k0 : (0 : Int) ≤ (k : Int) := by omega
      have k1 : (k : Int) < (N : Int) := by omega
      obtain ⟨b, off, b', off', x, y', rfl, rfl, hxy, x1, x2, y1, y2, hcc⟩ := HC.out k hlk
      have HCC : Hid (∀ w', Box w.heap.size W H z w w' → w'.cell? ⟨b, off + k, none⟩ = some (.int .i64 x) ∧ w'.cell? ⟨b', off' + k, none⟩ = some (.int .i64 y')) := fun w' hb => hcc w' hb.2.2.2.2
      have hlen : (zs.take k).length = k := by rw [List.length_take, HSL.out]; omega
      have hT := take_one hxy
      obtain ⟨s, hs⟩ : ∃ s, x + y' = s := ⟨_, rfl⟩
      have hws : IntKind.i64.wrap (x + y') = s := by rw [hs]; exact IntWalk.i64_in _ (by omega)
      rw [hs] at hT
      have HT := Lib.hid hT
      obtain ⟨ts, hts⟩ : ∃ ts, zs.take k = ts := ⟨_, rfl⟩
      rw [hts] at HT HR hlen
      have HLn := Lib.hid hlen
      have hkb : k ≤ 1000000000 := by omega
      clear hcc hxy hT hs hts hlen
      go_wp2_with fail
      refine wp_region_from (Box w.heap.size W H z w) (RowI (w.heap.size + 1) v ts) (by kernel_rfl) (by kernel_rfl) closed_box closed_rowI (closed_box _ _ HB.out (After.drew (After.refl _))) (closed_rowI _ _ HR.out (After.drew (After.refl _))) ?_
      refine Script.load (i := 0) (v := ?_) rfl (by kernel_rfl) (by kernel_rfl) (fun _ _ _ h => h) (by kernel_rfl) ?_ ?_
      rotate_left
      · (intro wS hSw; obtain ⟨e0, e1⟩ := HCC.out wS hSw; go_simp; try with_reducible rfl)
      try simp only [Act.put, List.getElem_toArray, List.getElem_cons_succ, List.getElem_cons_zero, List.setIfInBounds_toArray, List.set_cons_zero, List.set_cons_succ]
      refine Script.load (i := 1) (v := ?_) rfl (by kernel_rfl) (by kernel_rfl) (fun _ _ _ h => h) (by kernel_rfl) ?_ ?_
      rotate_left
      · (intro wS hSw; obtain ⟨e0, e1⟩ := HCC.out wS hSw; go_simp; try with_reducible rfl)
      try simp only [Act.put, List.getElem_toArray, List.getElem_cons_succ, List.getElem_cons_zero, List.setIfInBounds_toArray, List.set_cons_zero, List.set_cons_succ]
      refine Script.load (i := 2) (v := ?_) rfl (by kernel_rfl) (by kernel_rfl) (fun _ _ _ h => h) (by kernel_rfl) ?_ ?_
      rotate_left
      · (intro wS hSw; obtain ⟨e0, e1⟩ := HCC.out wS hSw; go_simp; try with_reducible rfl)
      try simp only [Act.put, List.getElem_toArray, List.getElem_cons_succ, List.getElem_cons_zero, List.setIfInBounds_toArray, List.set_cons_zero, List.set_cons_succ]
      refine Script.load (i := 3) (v := ?_) rfl (by kernel_rfl) (by kernel_rfl) (fun _ _ _ h => h) (by kernel_rfl) ?_ ?_
      rotate_left
      · (intro wS hSw; obtain ⟨e0, e1⟩ := HCC.out wS hSw; go_simp; try with_reducible rfl)
      try simp only [Act.put, List.getElem_toArray, List.getElem_cons_succ, List.getElem_cons_zero, List.setIfInBounds_toArray, List.set_cons_zero, List.set_cons_succ]
      refine Script.load (i := 4) (v := ?_) rfl (by kernel_rfl) (by kernel_rfl) (fun _ _ _ h => h) (by kernel_rfl) ?_ ?_
      rotate_left
      · (intro wS hSw; obtain ⟨e0, e1⟩ := HCC.out wS hSw; go_simp; try with_reducible rfl)
      try simp only [Act.put, List.getElem_toArray, List.getElem_cons_succ, List.getElem_cons_zero, List.setIfInBounds_toArray, List.set_cons_zero, List.set_cons_succ]
      refine Script.load (i := 5) (v := ?_) rfl (by kernel_rfl) (by kernel_rfl) (fun _ _ _ h => h) (by kernel_rfl) ?_ ?_
      rotate_left
      · (intro wS hSw; obtain ⟨e0, e1⟩ := HCC.out wS hSw; go_simp; try with_reducible rfl)
      try simp only [Act.put, List.getElem_toArray, List.getElem_cons_succ, List.getElem_cons_zero, List.setIfInBounds_toArray, List.set_cons_zero, List.set_cons_succ]
      refine Script.load (i := 6) (v := ?_) rfl (by kernel_rfl) (by kernel_rfl) (fun _ _ _ h => h) (by kernel_rfl) ?_ ?_
      rotate_left
      · (intro wS hSw; obtain ⟨e0, e1⟩ := HCC.out wS hSw; go_simp; try with_reducible rfl)
      try simp only [Act.put, List.getElem_toArray, List.getElem_cons_succ, List.getElem_cons_zero, List.setIfInBounds_toArray, List.set_cons_zero, List.set_cons_succ]
      refine Script.load (i := 7) (v := ?_) rfl (by kernel_rfl) (by kernel_rfl) (fun _ _ _ h => h) (by kernel_rfl) ?_ ?_
      rotate_left
      · (intro wS hSw; obtain ⟨e0, e1⟩ := HCC.out wS hSw; go_simp; try with_reducible rfl)
      try simp only [Act.put, List.getElem_toArray, List.getElem_cons_succ, List.getElem_cons_zero, List.setIfInBounds_toArray, List.set_cons_zero, List.set_cons_succ]
      refine Script.load (i := 8) (v := ?_) rfl (by kernel_rfl) (by kernel_rfl) (fun _ _ _ h => h) (by kernel_rfl) ?_ ?_
      rotate_left
      · (intro wS hSw; obtain ⟨e0, e1⟩ := HCC.out wS hSw; go_simp; try with_reducible rfl)
      try simp only [Act.put, List.getElem_toArray, List.getElem_cons_succ, List.getElem_cons_zero, List.setIfInBounds_toArray, List.set_cons_zero, List.set_cons_succ]
      refine Script.load (i := 9) (v := ?_) rfl (by kernel_rfl) (by kernel_rfl) (fun _ _ _ h => h) (by kernel_rfl) ?_ ?_
      rotate_left
      · (intro wS hSw; obtain ⟨e0, e1⟩ := HCC.out wS hSw; go_simp; try with_reducible rfl)
      try simp only [Act.put, List.getElem_toArray, List.getElem_cons_succ, List.getElem_cons_zero, List.setIfInBounds_toArray, List.set_cons_zero, List.set_cons_succ]
      refine Script.oneG (i := 10) (fun u w' => RowI (w.heap.size + 1) v ts w' ∧ ∃ q, u = .slice (some ⟨q, 0, none⟩) 1 1 ∧ w'.heap[q]? = some (.cells #[.int .i64 s] 3 (0, 0))) rfl (by kernel_rfl) (by kernel_rfl) (closed_box) (fun _ _ _ h k => ⟨closed_rowI _ _ h.1 k, h.2.imp fun q hq => ⟨hq.1, closed_row q _ _ _ hq.2 k⟩⟩) ?_
      intro wO10 hO10 hG10 K hK
      go_simp; refine hK.out _ _ (hO10.later ((Below.refl _ _).alloc (Nat.le_refl _) _)) ⟨closed_rowI _ _ hG10 ((Below.refl _ _).alloc (Nat.le_refl _) _), _, rfl, heap_alloc_new _ _⟩ ?_
      clear hK K
      try simp only [Act.put, List.getElem_toArray, List.getElem_cons_succ, List.getElem_cons_zero, List.setIfInBounds_toArray, List.set_cons_zero, List.set_cons_succ]
      refine Script.oneG (i := 11) (fun u w' => RowI (w.heap.size + 1) u (ts ++ [s]) w') rfl (by kernel_rfl) (by kernel_rfl) (closed_box) (fun _ => closed_rowI) ?_
      intro wO11 hO11 hG11 K hK
      obtain ⟨hR11, q11, hq11, hrow11⟩ := hG11; obtain rfl : wO10.heap.size = q11 := (by simpa using hq11); refine wp_append_one (.tmp 28) (.tmp 38) 26 rfl (w.heap.size + 1) 3 i0 (.int .i64 0) 8 Try.underlying26 hi hz0 hz1 hz2 rfl (by decide) v _ _ rfl hR11 _ rfl hrow11 rfl (by rw [HLn.out]; exact hkb) hO11.2.2.2.1 ?_; intro g11 cap11 w11 hown hgrow hb11; refine hK.out _ _ (Box.kept hO11 hb11 (Nat.lt_succ_self _) (Nat.le_succ _)) (by unfold RowI; rw [iv_snoc, List.length_append]; exact hown) ?_
      clear hK K
      try simp only [Act.put, List.getElem_toArray, List.getElem_cons_succ, List.getElem_cons_zero, List.setIfInBounds_toArray, List.set_cons_zero, List.set_cons_succ]
      refine Script.load (i := 12) (v := ?_) rfl (by kernel_rfl) (by kernel_rfl) (fun _ _ _ h => h) (by kernel_rfl) ?_ ?_
      rotate_left
      · (intro wS hSw; obtain ⟨e0, e1⟩ := HCC.out wS hSw; go_simp; try with_reducible rfl)
      try simp only [Act.put, List.getElem_toArray, List.getElem_cons_succ, List.getElem_cons_zero, List.setIfInBounds_toArray, List.set_cons_zero, List.set_cons_succ]
      refine Script.done (by kernel_rfl) ?_
      intro wD hD hG
      have HB' := Lib.hid hD
      have HR' : Hid (RowI (w.heap.size + 1) (.slice (some ⟨g11, 0, none⟩) (ts.length + 1) cap11) (zs.take (k + 1)) wD) := by unfold Hid; rw [HT.out]; exact hG
      clear hD hG hO10 hG10 hO11 hR11 hrow11 hq11 hown hgrow hb11 HB HR HT HLn HCC
      go_wp2_with fail
      go_roundw
      case rel => exact ⟨k + 1, _, by omega, by go_num, rfl, HR', HB'⟩
      case measure => simp [intOf]; omega
    · obtain rfl : k = N := by omega
      have hfull : zs.take k = zs := List.take_of_length_le (by rw [HSL.out]; exact Nat.le_refl _)
      rw [hfull] at HR
      have hown := HR.out
      unfold RowI at hown
      rw [HSL.out] at hown
      obtain ⟨ga, gc, rfl⟩ := int_form hown
      have HI5 := Lib.hid (ints_own hown HSL.out)
      clear hown hfull HC
      obtain ⟨c0, c1, c2, hlt, hb1⟩ := HB.out
      go_wp2_with fail
      refine (C4.out _ _ _ HI5.out).mono ?_
      rintro e w5 ⟨rfl, hb⟩
      have HB5 := Lib.hid (HB.out.later hb)
      have HR5 := Lib.hid (closed_rowI _ _ HR.out hb)
      clear c0 c1 c2 hlt hb1 hb HB HR HI5
      cases y
      · have hp : Hid (OwnIvB r w (.returned (.tuple #[.slice (some ⟨w5.heap.size, 0, none⟩) 0 0, .bool false])) (w5.alloc (.cells #[] 3))) := by
          unfold Hid
          rw [HE.out]
          exact ⟨_, rfl, own_base (World.ownsRow_made w5 #[] 0 (Nat.le_refl _) (by unfold maxLen; omega) rfl) HB5.out.2.2.2.2.size, HB5.out.2.2.2.2.alloc HB5.out.2.2.2.2.size _⟩
        clear HR5 HE HB5
        go_wp2_with fail
        go_ret2
        exact hp.out
      · have hp : Hid (OwnIvB r w (.returned (.tuple #[.slice ga k gc, .bool true])) w5) := by
          unfold Hid
          rw [HE.out]
          exact ⟨_, rfl, own_base HR5.out (Nat.le_succ _), HB5.out.2.2.2.2⟩
        clear HR5 HE HB5
        go_wp2_with fail
        go_ret2
        exact hp.out
theorem specAddWeights (W H Z : Int) {a a' : Option Addr} {n c n' c' : Nat} {xs ys : List Int} (w : World) (hx : n ≤ 1048576) (h : IntsAt w a n xs) (hy : n' ≤ 1048576) (h' : IntsAt w a' n' ys) :
    Calls Try.prog 27 #[.agg #[.int .i64 W, .int .i64 H, .int .i64 Z], .slice a n c, .slice a' n' c'] w (OwnIvB (addB W H Z xs ys) w) := by
  cases hw : (wOkB W H Z xs && wOkB W H Z ys)
  · rw [add_no hw]
    exact specAdd_no W H Z w hx h hy h' hw
  · rw [Bool.and_eq_true] at hw
    obtain ⟨hok, hl1, -⟩ := wOk_yes hw.1
    obtain ⟨-, hl2, -⟩ := wOk_yes hw.2
    obtain ⟨N, z, rfl, ho⟩ := ok_of hok
    rw [ho.wh] at hl1 hl2
    obtain rfl : n = N := by have := h.1; omega
    obtain rfl : n' = n := by have := h'.1; omega
    exact specAdd_yes ho w h h' hw.1 hw.2
end Go.Proofs.Ytdeciglcfabgpaa
