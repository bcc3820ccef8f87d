/- DrawWeights of the model: a valid board of at most sixteen places and a list of weights of it. Of codes of at most 1048576 bytes. -/
import Derived.Test.YtpdhdogllejdbaaDrawWeights
import Derived.Test.YtpdhdogllejdbaaBoards
namespace Go.Proofs.Ytpdhdogllejdbaa
open Go.RowKit
set_option linter.unusedVariables false
set_option linter.unusedSimpArgs false
def DrawWtsPost (w : World) (e : Ending) (w' : World) : Prop :=
  ∃ (W H : Int) (N z : Nat) (xs : List Int) (v : Value), Ok W H N z ∧ N ≤ 16 ∧ Bnd N 1000 xs ∧ e = .returned (.tuple #[bd W H z, v]) ∧ w'.ownsRow w.heap.size 3 1 v N (iv xs) ∧ Below w.heap.size w w'
def WtsAt (B N : Nat) (v : Value) (w : World) : Prop := ∃ xs : List Int, Bnd N 1000 xs ∧ w.ownsRow B 3 1 v N (iv xs)
theorem closed_wts {B N : Nat} {v : Value} : Closed (WtsAt B N v) := fun _ _ ⟨xs, h1, h2⟩ k => ⟨xs, h1, own_below h2 k⟩
theorem WtsAt.kept {w w' : World} {B N b : Nat} {v : Value} (h : WtsAt B N v w) (hg : w.grownBy w' (some b)) (hb : b < B) : WtsAt B N v w' := by
  obtain ⟨xs, h1, h2⟩ := h
  exact ⟨xs, h1, own_kept h2 hg hb⟩
theorem grownSet3 (w : World) (b : Nat) (x y z : Value) : w.grownBy (set3 w b x y z) (some b) := (grown_set w b 0 x).trans ((grown_set _ b 1 y).trans (grown_set _ b 2 z))
set_option maxHeartbeats 4000000 in
set_option maxRecDepth 100000 in
theorem drawWeights {a : Option Addr} {len cap : Nat} (w : World) (hcode : CodeAt w a len) :
    Calls Try.prog 63 #[.slice a len cap] w (DrawWtsPost w) := by
  have HCO := Lib.hid hcode
  clear hcode
  go_enter Try.func63, Try.ntmps63
  go_wp2_with fail
  have hA : zero3 (w.alloc (.cells #[.int .i64 0, .int .i64 0, .int .i64 0] 25)) w.heap.size := heap_alloc_new w _
  have hB : Below w.heap.size w (w.alloc (.cells #[.int .i64 0, .int .i64 0, .int .i64 0] 25)) := (Below.refl _ _).alloc (Nat.le_refl _) _
  have hS : w.heap.size < (w.alloc (.cells #[.int .i64 0, .int .i64 0, .int .i64 0] 25)).heap.size := by simp
  have HC1 := Lib.hid (HCO.out.below hB)
  generalize w.alloc (.cells #[.int .i64 0, .int .i64 0, .int .i64 0] 25) = W1 at *
  refine (curNew _ HC1.out).mono ?_
  rintro e w1 ⟨p, rfl, hd⟩
  have HD := Lib.hid hd
  have hp := hd.1
  have HA1 : Hid (zero3 w1 w.heap.size) := row_later hA hd.2.1 hS
  clear hA hd
  go_wp2_with fail
  refine (small HC1.out _ HD.out).mono ?_
  rintro e w2 ⟨W, H, N, z, ho, hN, rfl, hd2, hg⟩
  unfold bd
  have HO := Lib.hid ho
  have hlt1 : w.heap.size < w1.heap.size := Nat.lt_of_lt_of_le hS HD.out.2.1.size
  have HA2 : Hid (zero3 w2 w.heap.size) := (hg.block _ hlt1 (by intro h; injection h; omega)).trans HA1.out
  have HD2 := Lib.hid hd2
  have HB := Lib.hid hB
  have hpw2 := Dr.lt hd2
  clear hd2 hg ho HA1 HD
  go_wp2_with fail
  have hq : (w2.alloc (.cells #[.int .i64 W, .int .i64 H, .int .i64 z] 25)).heap[w2.heap.size]? = some (.cells #[.int .i64 W, .int .i64 H, .int .i64 z] 25 (0, 0)) := heap_alloc_new w2 _
  have hB3 : Below w2.heap.size w2 (w2.alloc (.cells #[.int .i64 W, .int .i64 H, .int .i64 z] 25)) := (Below.refl _ _).alloc (Nat.le_refl _) _
  have HH : Hid (HeldPos W1 a len cap p w.heap.size 0 0 0 (w2.alloc (.cells #[.int .i64 W, .int .i64 H, .int .i64 z] 25))) := ⟨HD2.out.below hB3, row_later HA2.out hB3 (row_lt HA2.out)⟩
  have HQ := Lib.hid hq
  have hpw : ¬ w2.heap.size = p := by omega
  have hpb : ¬ w.heap.size = p := by omega
  have hqb : ¬ w2.heap.size = w.heap.size := by have := row_lt HA2.out; omega
  clear hq hB3 HD2 HA2 hpw2
  generalize w2.alloc (.cells #[.int .i64 W, .int .i64 H, .int .i64 z] 25) = w3 at *
  generalize w2.heap.size = q at *
  refine wp_region_from (fun w' => w'.heap[q]? = some (.cells #[.int .i64 W, .int .i64 H, .int .i64 z] 25 (0, 0))) (HeldPos W1 a len cap p w.heap.size 0 0 0) (by kernel_rfl) (by kernel_rfl) (closed_row _ _) closed_held (closed_row _ _ _ _ HQ.out (After.drew (After.refl _))) (closed_held _ _ HH.out (After.drew (After.refl _))) ?_
  refine Script.load (i := 0) (v := ?_) rfl (by kernel_rfl) (by kernel_rfl) (fun _ _ _ h => h) (by kernel_rfl) ?_ ?_
  rotate_left
  · (intro wS hSw; obtain ⟨c0, c1, c2, -, -, -⟩ := row_facts hSw; go_simp; try with_reducible rfl)
  try simp only [Act.put, List.getElem_toArray, List.getElem_cons_succ, List.getElem_cons_zero, List.setIfInBounds_toArray, List.set_cons_zero, List.set_cons_succ]
  refine Script.load (i := 1) (v := ?_) rfl (by kernel_rfl) (by kernel_rfl) (fun _ _ _ h => h) (by kernel_rfl) ?_ ?_
  rotate_left
  · (intro wS hSw; obtain ⟨c0, c1, c2, -, -, -⟩ := row_facts hSw; go_simp; try with_reducible rfl)
  try simp only [Act.put, List.getElem_toArray, List.getElem_cons_succ, List.getElem_cons_zero, List.setIfInBounds_toArray, List.set_cons_zero, List.set_cons_succ]
  refine Script.load (i := 2) (v := ?_) rfl (by kernel_rfl) (by kernel_rfl) (fun _ _ _ h => h) (by kernel_rfl) ?_ ?_
  rotate_left
  · (intro wS hSw; obtain ⟨c0, c1, c2, -, -, -⟩ := row_facts hSw; go_simp; try with_reducible rfl)
  try simp only [Act.put, List.getElem_toArray, List.getElem_cons_succ, List.getElem_cons_zero, List.setIfInBounds_toArray, List.set_cons_zero, List.set_cons_succ]
  refine Script.oneG (i := 3) (fun v w' => WtsAt (w.heap.size + 1) N v w' ∧ HeldPos W1 a len cap p w.heap.size 0 0 0 w') rfl (by kernel_rfl) (by kernel_rfl) (closed_row _ _) (fun _ _ _ h k => ⟨closed_wts _ _ h.1 k, closed_held _ _ h.2 k⟩) ?_
  intro wO3 hO3 hG3 K hK
  go_simp; go_at_call 110; refine (drawWts (cap := cap) (p := p) HC1.out HO.out _ hG3.1).mono ?_; rintro e wc ⟨xs, v, hxs, rfl, hov, hd, hg⟩; refine hK.out _ _ (row_grown hO3 hg hpw) ⟨⟨xs, hxs, own_base hov (row_lt hG3.2)⟩, hd, row_grown hG3.2 hg hpb⟩ ?_
  clear hK K
  try simp only [Act.put, List.getElem_toArray, List.getElem_cons_succ, List.getElem_cons_zero, List.setIfInBounds_toArray, List.set_cons_zero, List.set_cons_succ]
  refine Script.oneG (i := 4) (fun _ w' => WtsAt (w.heap.size + 1) N v w' ∧ w'.heap[w.heap.size]? = some (.cells #[.int .i64 W, .int .i64 H, .int .i64 z] 25 (0, 0)) ∧ Below w.heap.size w w') rfl (by kernel_rfl) (by kernel_rfl) (closed_row _ _) (fun _ _ _ h k => ⟨closed_wts _ _ h.1 k, closed_row _ _ _ _ h.2.1 k, Below.trans h.2.2 (Below.mono k h.2.2.size)⟩) ?_
  intro wO4 hO4 hG4 K hK
  obtain ⟨z0, z1, z2, f0, f1, f2⟩ := row_facts hG4.2.2; go_simp; refine hK.out undef _ (row_set3_other hO4 hqb) ⟨hG4.1.kept (grownSet3 _ _ _ _ _) (Nat.lt_succ_self _), row_set3 hG4.2.2, set_below (set_below (set_below (HB.out.trans (hG4.2.1.2.1.mono HB.out.size)) (Nat.le_refl _)) (Nat.le_refl _)) (Nat.le_refl _)⟩ ?_
  clear hK K
  try simp only [Act.put, List.getElem_toArray, List.getElem_cons_succ, List.getElem_cons_zero, List.setIfInBounds_toArray, List.set_cons_zero, List.set_cons_succ]
  refine Script.load (i := 5) (v := ?_) rfl (by kernel_rfl) (by kernel_rfl) (fun _ _ _ h => h) (by kernel_rfl) ?_ ?_
  rotate_left
  · (intro wS hSw; obtain ⟨c0, c1, c2, -, -, -⟩ := row_facts hSw; go_simp; try with_reducible rfl)
  try simp only [Act.put, List.getElem_toArray, List.getElem_cons_succ, List.getElem_cons_zero, List.setIfInBounds_toArray, List.set_cons_zero, List.set_cons_succ]
  refine Script.done (by kernel_rfl) ?_
  intro wD hD hG
  have HF := Lib.hid hG
  clear hO3 hG3 hO4 hG4 hov hd hg hD hG HQ HH HB
  obtain ⟨a0, a1, a2, -, -, -⟩ := row_facts HF.out.2.1
  obtain ⟨xs, hx, hown⟩ := HF.out.1
  go_wp2_with fail
  exact bodyPost_ret (v := .tuple #[bd W H z, v]) (by simp [results, Try.results63, go_sem, bd, a0, a1, a2]) rfl ⟨W, H, N, z, xs, v, HO.out, hN, hx, rfl, own_base hown (Nat.le_succ _), HF.out.2.2⟩
end Go.Proofs.Ytpdhdogllejdbaa
