/- Whether a position is good, of the program: the closure that searches with a memory, by its number of pegs. -/
import Derived.Test.YtlklnabnomfhbaaGreatGoodA
namespace Go.Proofs.YtlklnabnomfhbaaGreat
open Go.RowKit
set_option linter.unusedVariables false
set_option linter.unusedSimpArgs false
set_option maxHeartbeats 4000000 in
set_option maxRecDepth 100000 in
theorem implStepG {a b z q f o t r : Nat} {G : Int} {B bk bg bl bi bm n vc bp : Nat} {va : Option Addr} {xs : List Ln} {c : Bool} (hq : q < 562949953421312) (hf : f < 49) (ho : o < 49) (ht : t < 49) (hfl : flipN q f o t = r)
    (hgood : befN q f o t = true → ∀ w, Fixed xs G B bk bg bl bi bm va n vc w → Knows a b z G bm w → Calls Tryz.prog 69 #[.int .i64 (r : Int), .pointer (some ⟨bk, 0, none⟩), .pointer (some ⟨bg, 0, none⟩), .pointer (some ⟨bl, 0, none⟩), .pointer (some ⟨bi, 0, none⟩)] w (fun e w' => e = .returned (.bool c) ∧ Knows a b z G bm w' ∧ w.grownBy w' (some bm)))
    (w : World) (hF : Fixed xs G B bk bg bl bi bm va n vc w) (hK : Knows a b z G bm w) (hp : w.cell? ⟨bp, 0, none⟩ = some (.int .i64 (q : Int))) (hpm : bp ≠ bm) :
    Calls Tryz.prog 71 #[.agg #[.int .i64 (f : Int), .int .i64 (o : Int), .int .i64 (t : Int)], .pointer (some ⟨bp, 0, none⟩), .pointer (some ⟨bi, 0, none⟩)] w (fun e w' => e = .returned (.bool (befN q f o t && c)) ∧ Knows a b z G bm w' ∧ w.grownBy w' (some bm)) := by
  have CB := Lib.hid (fun w => implBef q f o t hf ho ht w)
  have CF := Lib.hid (fun w => implFlip q f o t hq hf ho ht w)
  rw [hfl] at CF
  have hba : Below w.heap.size w (w.alloc (.cells #[.int .i64 (f : Int), .int .i64 (o : Int), .int .i64 (t : Int)] 39)) := (Below.refl _ _).alloc (Nat.le_refl _) _
  have HF1 := Lib.hid (hF.later hba)
  have HK1 := Lib.hid (hK.later hba)
  have hpl := World.block_lt_of_cell? w _ hp
  have HP1 : Hid ((w.alloc (.cells #[.int .i64 (f : Int), .int .i64 (o : Int), .int .i64 (t : Int)] 39)).cell? ⟨bp, 0, none⟩ = some (.int .i64 (q : Int))) := (hba.cell hpl).trans hp
  have HB1 := Lib.hid (grown_below hba (some bm))
  have hpS : Hid (some bp ≠ some bm) := fun e => hpm (by simpa using e)
  have hlS : Hid (some w.heap.size ≠ some bm) := fun e => by have := hF.lt; simp at e; omega
  clear hpm hF hK hp hpl hba hq hf ho ht hfl
  cases hb : befN q f o t
  · rw [hb] at CB
    clear hgood CF hb
    go_enter Tryz.func71, Tryz.ntmps71
    go_wp2_with fail
    have B0 := Lib.hid (box_newT 39 f o t w)
    have HW : Hid (∀ w', Below (w.alloc (.cells #[.int .i64 (f : Int), .int .i64 (o : Int), .int .i64 (t : Int)] 39)).heap.size (w.alloc (.cells #[.int .i64 (f : Int), .int .i64 (o : Int), .int .i64 (t : Int)] 39)) w' → w'.cell? ⟨bp, 0, none⟩ = some (.int .i64 (q : Int))) := fun w' h => (h.cell (World.block_lt_of_cell? _ _ HP1.out)).trans HP1.out
    clear HP1
    generalize w.alloc (.cells #[.int .i64 (f : Int), .int .i64 (o : Int), .int .i64 (t : Int)] 39) = W1 at *
    refine wp_region_script (by kernel_rfl) (by kernel_rfl) ?_
    refine Script.load (i := 0) (v := ?_) rfl (by kernel_rfl) (by kernel_rfl) (fun _ _ _ h => h) (by kernel_rfl) ?_ ?_
    rotate_left
    · (intro wS hSw; obtain ⟨c0, c1, c2, -, -⟩ := B0.out.later (After.trans (After.drew (After.refl _)) hSw); have k1 := HW.out _ (After.trans (After.drew (After.refl _)) hSw); go_simp; try with_reducible rfl)
    try simp only [Act.put, List.getElem_toArray, List.getElem_cons_succ, List.getElem_cons_zero, List.setIfInBounds_toArray, List.set_cons_zero, List.set_cons_succ]
    refine Script.load (i := 1) (v := ?_) rfl (by kernel_rfl) (by kernel_rfl) (fun _ _ _ h => h) (by kernel_rfl) ?_ ?_
    rotate_left
    · (intro wS hSw; obtain ⟨c0, c1, c2, -, -⟩ := B0.out.later (After.trans (After.drew (After.refl _)) hSw); have k1 := HW.out _ (After.trans (After.drew (After.refl _)) hSw); go_simp; try with_reducible rfl)
    try simp only [Act.put, List.getElem_toArray, List.getElem_cons_succ, List.getElem_cons_zero, List.setIfInBounds_toArray, List.set_cons_zero, List.set_cons_succ]
    refine Script.call (i := 2) (v := ?_) rfl (by kernel_rfl) (by kernel_rfl) (fun _ _ _ h => h) (by kernel_rfl) ?_ ?_
    rotate_left
    · (intro wS hSw K hK; obtain ⟨c0, c1, c2, -, -⟩ := B0.out.later (After.trans (After.drew (After.refl _)) hSw); have k1 := HW.out _ (After.trans (After.drew (After.refl _)) hSw); go_simp; go_at_call 50; refine (CB.out _).mono ?_; rintro e wc ⟨rfl, hbc⟩; exact hK.out _ hbc)
    try simp only [Act.put, List.getElem_toArray, List.getElem_cons_succ, List.getElem_cons_zero, List.setIfInBounds_toArray, List.set_cons_zero, List.set_cons_succ]
    refine Script.load (i := 3) (v := ?_) rfl (by kernel_rfl) (by kernel_rfl) (fun _ _ _ h => h) (by kernel_rfl) ?_ ?_
    rotate_left
    · (intro wS hSw; obtain ⟨c0, c1, c2, -, -⟩ := B0.out.later (After.trans (After.drew (After.refl _)) hSw); have k1 := HW.out _ (After.trans (After.drew (After.refl _)) hSw); go_simp; try with_reducible rfl)
    try simp only [Act.put, List.getElem_toArray, List.getElem_cons_succ, List.getElem_cons_zero, List.setIfInBounds_toArray, List.set_cons_zero, List.set_cons_succ]
    refine Script.skip (i := 4) rfl (by kernel_rfl) (by kernel_rfl) (fun _ _ _ h => h) (by kernel_rfl) ?_
    try simp only [Act.put, List.getElem_toArray, List.getElem_cons_succ, List.getElem_cons_zero, List.setIfInBounds_toArray, List.set_cons_zero, List.set_cons_succ]
    refine Script.skip (i := 5) rfl (by kernel_rfl) (by kernel_rfl) (fun _ _ _ h => h) (by kernel_rfl) ?_
    try simp only [Act.put, List.getElem_toArray, List.getElem_cons_succ, List.getElem_cons_zero, List.setIfInBounds_toArray, List.set_cons_zero, List.set_cons_succ]
    refine Script.skip (i := 6) rfl (by kernel_rfl) (by kernel_rfl) (fun _ _ _ h => h) (by kernel_rfl) ?_
    try simp only [Act.put, List.getElem_toArray, List.getElem_cons_succ, List.getElem_cons_zero, List.setIfInBounds_toArray, List.set_cons_zero, List.set_cons_succ]
    refine Script.skip (i := 7) rfl (by kernel_rfl) (by kernel_rfl) (fun _ _ _ h => h) (by kernel_rfl) ?_
    try simp only [Act.put, List.getElem_toArray, List.getElem_cons_succ, List.getElem_cons_zero, List.setIfInBounds_toArray, List.set_cons_zero, List.set_cons_succ]
    refine Script.skip (i := 8) rfl (by kernel_rfl) (by kernel_rfl) (fun _ _ _ h => h) (by kernel_rfl) ?_
    try simp only [Act.put, List.getElem_toArray, List.getElem_cons_succ, List.getElem_cons_zero, List.setIfInBounds_toArray, List.set_cons_zero, List.set_cons_succ]
    refine Script.load (i := 9) (v := ?_) rfl (by kernel_rfl) (by kernel_rfl) (fun _ _ _ h => h) (by kernel_rfl) ?_ ?_
    rotate_left
    · (intro wS hSw; obtain ⟨c0, c1, c2, -, -⟩ := B0.out.later (After.trans (After.drew (After.refl _)) hSw); have k1 := HW.out _ (After.trans (After.drew (After.refl _)) hSw); go_simp; try with_reducible rfl)
    try simp only [Act.put, List.getElem_toArray, List.getElem_cons_succ, List.getElem_cons_zero, List.setIfInBounds_toArray, List.set_cons_zero, List.set_cons_succ]
    refine Script.load (i := 10) (v := ?_) rfl (by kernel_rfl) (by kernel_rfl) (fun _ _ _ h => h) (by kernel_rfl) ?_ ?_
    rotate_left
    · (intro wS hSw; obtain ⟨c0, c1, c2, -, -⟩ := B0.out.later (After.trans (After.drew (After.refl _)) hSw); have k1 := HW.out _ (After.trans (After.drew (After.refl _)) hSw); go_simp; try with_reducible rfl)
    try simp only [Act.put, List.getElem_toArray, List.getElem_cons_succ, List.getElem_cons_zero, List.setIfInBounds_toArray, List.set_cons_zero, List.set_cons_succ]
    refine Script.done (by kernel_rfl) ?_
    intro wD hD hG
    have HK2 := Lib.hid (HK1.out.later (After.trans (After.drew (After.refl _)) hD))
    have HB2 := Lib.hid (gb_after HB1.out (After.trans (After.drew (After.refl _)) hD))
    clear hD hG
    go_wp2_with fail
    go_ret
    exact ⟨rfl, HK2.out, HB2.out⟩
  · have CG := Lib.hid (hgood hb)
    rw [hb] at CB
    clear hgood hb
    go_enter Tryz.func71, Tryz.ntmps71
    go_wp2_with fail
    have B0 := Lib.hid (box_newT 39 f o t w)
    have HW : Hid (∀ w', Below (w.alloc (.cells #[.int .i64 (f : Int), .int .i64 (o : Int), .int .i64 (t : Int)] 39)).heap.size (w.alloc (.cells #[.int .i64 (f : Int), .int .i64 (o : Int), .int .i64 (t : Int)] 39)) w' → w'.cell? ⟨bp, 0, none⟩ = some (.int .i64 (q : Int))) := fun w' h => (h.cell (World.block_lt_of_cell? _ _ HP1.out)).trans HP1.out
    have HC1 : Hid (∀ w', (w.alloc (.cells #[.int .i64 (f : Int), .int .i64 (o : Int), .int .i64 (t : Int)] 39)).grownBy w' (some bm) → w'.cell? ⟨w.heap.size, 0, none⟩ = some (.int .i64 (f : Int)) ∧ w'.cell? ⟨w.heap.size, 1, none⟩ = some (.int .i64 (o : Int)) ∧ w'.cell? ⟨w.heap.size, 2, none⟩ = some (.int .i64 (t : Int))) := fun w' h => by
      obtain ⟨x0, x1, x2, -, -⟩ := B0.out
      exact ⟨h.cell x0 hlS.out, h.cell x1 hlS.out, h.cell x2 hlS.out⟩
    generalize w.alloc (.cells #[.int .i64 (f : Int), .int .i64 (o : Int), .int .i64 (t : Int)] 39) = W1 at *
    refine wp_region_from (fun w' => W1.grownBy w' (some bm)) (fun w' => Knows a b z G bm w') (by kernel_rfl) (by kernel_rfl) (closed_gb _ _) closed_knows (grown_below (After.drew (After.refl _)) _) (HK1.out.later (After.drew (After.refl _))) ?_
    refine Script.load (i := 0) (v := ?_) rfl (by kernel_rfl) (by kernel_rfl) (fun _ _ _ h => h) (by kernel_rfl) ?_ ?_
    rotate_left
    · (intro wS hSw; obtain ⟨c0, c1, c2⟩ := HC1.out _ hSw; have k1 := World.grownBy.cell hSw HP1.out hpS.out; have k2 := (HF1.out.grown hSw).i; unfold GoodV at k2; go_simp; try with_reducible rfl)
    try simp only [Act.put, List.getElem_toArray, List.getElem_cons_succ, List.getElem_cons_zero, List.setIfInBounds_toArray, List.set_cons_zero, List.set_cons_succ]
    refine Script.load (i := 1) (v := ?_) rfl (by kernel_rfl) (by kernel_rfl) (fun _ _ _ h => h) (by kernel_rfl) ?_ ?_
    rotate_left
    · (intro wS hSw; obtain ⟨c0, c1, c2⟩ := HC1.out _ hSw; have k1 := World.grownBy.cell hSw HP1.out hpS.out; have k2 := (HF1.out.grown hSw).i; unfold GoodV at k2; go_simp; try with_reducible rfl)
    try simp only [Act.put, List.getElem_toArray, List.getElem_cons_succ, List.getElem_cons_zero, List.setIfInBounds_toArray, List.set_cons_zero, List.set_cons_succ]
    refine Script.call (i := 2) (v := ?_) rfl (by kernel_rfl) (by kernel_rfl) (fun _ _ _ h => h) (by kernel_rfl) ?_ ?_
    rotate_left
    · (intro wS hSw K hK; obtain ⟨c0, c1, c2⟩ := HC1.out _ hSw; have k1 := World.grownBy.cell hSw HP1.out hpS.out; have k2 := (HF1.out.grown hSw).i; unfold GoodV at k2; go_simp; go_at_call 50; refine (CB.out _).mono ?_; rintro e wc ⟨rfl, hbc⟩; exact hK.out _ hbc)
    try simp only [Act.put, List.getElem_toArray, List.getElem_cons_succ, List.getElem_cons_zero, List.setIfInBounds_toArray, List.set_cons_zero, List.set_cons_succ]
    refine Script.load (i := 3) (v := ?_) rfl (by kernel_rfl) (by kernel_rfl) (fun _ _ _ h => h) (by kernel_rfl) ?_ ?_
    rotate_left
    · (intro wS hSw; obtain ⟨c0, c1, c2⟩ := HC1.out _ hSw; have k1 := World.grownBy.cell hSw HP1.out hpS.out; have k2 := (HF1.out.grown hSw).i; unfold GoodV at k2; go_simp; try with_reducible rfl)
    try simp only [Act.put, List.getElem_toArray, List.getElem_cons_succ, List.getElem_cons_zero, List.setIfInBounds_toArray, List.set_cons_zero, List.set_cons_succ]
    refine Script.load (i := 4) (v := ?_) rfl (by kernel_rfl) (by kernel_rfl) (fun _ _ _ h => h) (by kernel_rfl) ?_ ?_
    rotate_left
    · (intro wS hSw; obtain ⟨c0, c1, c2⟩ := HC1.out _ hSw; have k1 := World.grownBy.cell hSw HP1.out hpS.out; have k2 := (HF1.out.grown hSw).i; unfold GoodV at k2; go_simp; try with_reducible rfl)
    try simp only [Act.put, List.getElem_toArray, List.getElem_cons_succ, List.getElem_cons_zero, List.setIfInBounds_toArray, List.set_cons_zero, List.set_cons_succ]
    refine Script.load (i := 5) (v := ?_) rfl (by kernel_rfl) (by kernel_rfl) (fun _ _ _ h => h) (by kernel_rfl) ?_ ?_
    rotate_left
    · (intro wS hSw; obtain ⟨c0, c1, c2⟩ := HC1.out _ hSw; have k1 := World.grownBy.cell hSw HP1.out hpS.out; have k2 := (HF1.out.grown hSw).i; unfold GoodV at k2; go_simp; try with_reducible rfl)
    try simp only [Act.put, List.getElem_toArray, List.getElem_cons_succ, List.getElem_cons_zero, List.setIfInBounds_toArray, List.set_cons_zero, List.set_cons_succ]
    refine Script.load (i := 6) (v := ?_) rfl (by kernel_rfl) (by kernel_rfl) (fun _ _ _ h => h) (by kernel_rfl) ?_ ?_
    rotate_left
    · (intro wS hSw; obtain ⟨c0, c1, c2⟩ := HC1.out _ hSw; have k1 := World.grownBy.cell hSw HP1.out hpS.out; have k2 := (HF1.out.grown hSw).i; unfold GoodV at k2; go_simp; try with_reducible rfl)
    try simp only [Act.put, List.getElem_toArray, List.getElem_cons_succ, List.getElem_cons_zero, List.setIfInBounds_toArray, List.set_cons_zero, List.set_cons_succ]
    refine Script.call (i := 7) (v := ?_) rfl (by kernel_rfl) (by kernel_rfl) (fun _ _ _ h => h) (by kernel_rfl) ?_ ?_
    rotate_left
    · (intro wS hSw K hK; obtain ⟨c0, c1, c2⟩ := HC1.out _ hSw; have k1 := World.grownBy.cell hSw HP1.out hpS.out; have k2 := (HF1.out.grown hSw).i; unfold GoodV at k2; go_simp; go_at_call 22; refine (CF.out _).mono ?_; rintro e wc ⟨rfl, hbc⟩; exact hK.out _ hbc)
    try simp only [Act.put, List.getElem_toArray, List.getElem_cons_succ, List.getElem_cons_zero, List.setIfInBounds_toArray, List.set_cons_zero, List.set_cons_succ]
    refine Script.oneG (i := 8) ((fun _ w' => Knows a b z G bm w')) rfl (by kernel_rfl) (by kernel_rfl) (closed_gb _ _) (fun _ => closed_knows) ?_
    intro wO8 hO8 hG8 K hK
    (have hSw := hO8; have k2 := (HF1.out.grown hSw).i; unfold GoodV at k2; go_simp; refine (CG.out wO8 (HF1.out.grown hSw) hG8).mono ?_; rintro e wc ⟨rfl, hk, hg⟩; refine hK.out _ _ (gb_trans hO8 hg) hk ?_; clear hk hg k2 hSw)
    clear hK K
    try simp only [Act.put, List.getElem_toArray, List.getElem_cons_succ, List.getElem_cons_zero, List.setIfInBounds_toArray, List.set_cons_zero, List.set_cons_succ]
    refine Script.load (i := 9) (v := ?_) rfl (by kernel_rfl) (by kernel_rfl) (fun _ _ _ h => h) (by kernel_rfl) ?_ ?_
    rotate_left
    · (intro wS hSw; obtain ⟨c0, c1, c2⟩ := HC1.out _ hSw; have k1 := World.grownBy.cell hSw HP1.out hpS.out; have k2 := (HF1.out.grown hSw).i; unfold GoodV at k2; go_simp; try with_reducible rfl)
    try simp only [Act.put, List.getElem_toArray, List.getElem_cons_succ, List.getElem_cons_zero, List.setIfInBounds_toArray, List.set_cons_zero, List.set_cons_succ]
    refine Script.load (i := 10) (v := ?_) rfl (by kernel_rfl) (by kernel_rfl) (fun _ _ _ h => h) (by kernel_rfl) ?_ ?_
    rotate_left
    · (intro wS hSw; obtain ⟨c0, c1, c2⟩ := HC1.out _ hSw; have k1 := World.grownBy.cell hSw HP1.out hpS.out; have k2 := (HF1.out.grown hSw).i; unfold GoodV at k2; go_simp; try with_reducible rfl)
    try simp only [Act.put, List.getElem_toArray, List.getElem_cons_succ, List.getElem_cons_zero, List.setIfInBounds_toArray, List.set_cons_zero, List.set_cons_succ]
    refine Script.done (by kernel_rfl) ?_
    intro wD hD hG
    have HK2 := Lib.hid hG
    have HB2 := Lib.hid (gb_trans HB1.out hD)
    clear hD hG
    go_wp2_with fail
    go_ret
    exact ⟨rfl, HK2.out, HB2.out⟩
theorem tail_get {α : Type} {l : List (α × Bool)} {x : α} {v : Bool} [DecidableEq α] (h : getM l x = some v) {z : Value} : ((getM l x).map Value.bool).getD z = .bool v ∧ (getM l x).isSome = true := by rw [h]; exact ⟨rfl, rfl⟩
set_option maxHeartbeats 8000000 in
set_option maxRecDepth 100000 in
theorem implGoodStep {a b N z q : Nat} (ho : Ok (a : Int) (b : Int) N z) (h16 : N ≤ 16) {G : Int} {B bk bg bl bi bm n vc : Nat} {va : Option Addr} (hq : Part q z)
    (hgood : ∀ r : Nat, Part r z → pc 49 r < pc 49 q → ∀ w, Fixed (lnsOf (a : Int) b z) G B bk bg bl bi bm va n vc w → Knows a b z G bm w → Calls Tryz.prog 69 #[.int .i64 (r : Int), .pointer (some ⟨bk, 0, none⟩), .pointer (some ⟨bg, 0, none⟩), .pointer (some ⟨bl, 0, none⟩), .pointer (some ⟨bi, 0, none⟩)] w (fun e w' => e = .returned (.bool (reachB false a b z r G)) ∧ Knows a b z G bm w' ∧ w.grownBy w' (some bm)))
    (w : World) (hF : Fixed (lnsOf (a : Int) b z) G B bk bg bl bi bm va n vc w) (hK : Knows a b z G bm w) :
    Calls Tryz.prog 69 #[.int .i64 (q : Int), .pointer (some ⟨bk, 0, none⟩), .pointer (some ⟨bg, 0, none⟩), .pointer (some ⟨bl, 0, none⟩), .pointer (some ⟨bi, 0, none⟩)] w (fun e w' => e = .returned (.bool (reachB false a b z q G)) ∧ Knows a b z G bm w' ∧ w.grownBy w' (some bm)) := by
  have hrec := good_rec ho h16 hq G
  have hle := lnsOf_le (a : Int) b z
  rw [hF.len] at hle
  have hqb : q < 562949953421312 := hq.big ho
  have hba : Below w.heap.size w (w.alloc (.cells #[.int .i64 (q : Int)] 3)) := (Below.refl _ _).alloc (Nat.le_refl _) _
  have HF1 := Lib.hid (hF.later hba)
  have HK1 := Lib.hid (hK.later hba)
  have HB1 := Lib.hid (grown_below hba (some bm))
  have hne : w.heap.size ≠ bm := by have := hF.lt; omega
  have HP1 : Hid ((w.alloc (.cells #[.int .i64 (q : Int)] 3)).cell? ⟨w.heap.size, 0, none⟩ = some (.int .i64 (q : Int))) := by
    unfold Hid
    rw [cell_of_row _ _ _ _ _ _ (heap_alloc_new w _)]; rfl
  clear hba hF hK
  have hneS : Hid (some w.heap.size ≠ some bm) := fun e => hne (by simpa using e)
  clear hne
  obtain ⟨l, hl, hv⟩ := HK1.out
  have hlk := hl.look true key_pos Tryz.underlying86 (zero_bool5 (w.alloc (.cells #[.int .i64 (q : Int)] 3))) (q : Int)
  have CC : (q : Int) ≠ G → Hid (∀ w1, Knows a b z G bm w1 ∧ (w.alloc (.cells #[.int .i64 (q : Int)] 3)).grownBy w1 (some bm) → Calls Tryz.prog 70 #[.slice va n vc, .func (.func 71) #[] #[.pointer (some ⟨w.heap.size, 0, none⟩), .pointer (some ⟨bi, 0, none⟩)]] w1 (fun e w' => e = .returned (.bool (reachB false a b z q G)) ∧ Knows a b z G bm w' ∧ (w.alloc (.cells #[.int .i64 (q : Int)] 3)).grownBy w' (some bm))) := fun hqg w0 h0 => by
    rw [hrec, decide_eq_false hqg, Bool.false_or]
    refine implContainsG (B := B) (f := fun l => befL q l && reachB false a b z (flipL q l) G) (J := fun w1 => Knows a b z G bm w1 ∧ (w.alloc (.cells #[.int .i64 (q : Int)] 3)).grownBy w1 (some bm)) HF1.out.len hle (fun w1 h => (HF1.out.grown h.2).row) ?_ w0 h0
    intro x y t hm w2 h2
    obtain ⟨f, o, t', r, he, h49, ho49, ht49, hfl, e2, e3, hpc, hpt⟩ := line_is5 ho q hm
    obtain ⟨rfl, rfl, rfl⟩ : x = (f : Int) ∧ y = (o : Int) ∧ t = (t' : Int) := by simpa using he
    have := implStepG (c := reachB false a b z r G) hqb h49 ho49 ht49 hfl (fun hbf w hF hK => hgood r (hpt hq) (by have := hpc hbf; omega) w hF hK) w2 (HF1.out.grown h2.2) h2.1 (h2.2.cell HP1.out hneS.out) (fun e => hneS.out (by rw [e]))
    refine this.mono ?_
    rintro e w3 ⟨rfl, hk, hg⟩
    exact ⟨by simp only [e2, e3], hk, gb_trans h2.2 hg⟩
  cases hget : getM l (q : Int) with
  | some v =>
    have hvv := hv _ _ hget
    rw [hget] at hlk
    simp only [Option.map_some, Option.getD_some, Option.isSome_some, if_true] at hlk
    rw [← hvv]
    have k1 := HF1.out.k
    have k2 := HP1.out
    clear hvv hv hl hget CC hrec hgood ho hq hqb hle
    go_enter Tryz.func69, Tryz.ntmps69
    go_wp2_with fail
    go_ret
    exact ⟨rfl, HK1.out, HB1.out⟩
  | none =>
    rw [hget] at hlk
    simp only [Option.map_none, Option.getD_none, Option.isSome_none, if_true] at hlk
    have k1 := HF1.out.k
    have k2 := HP1.out
    obtain ⟨c, hc⟩ : ∃ c, reachB false a b z q G = c := ⟨_, rfl⟩
    have HC := Lib.hid hc
    rw [hc]
    have HEnd : Hid (∀ l2 (w3 w4 : World), BoolMap w3 bm (putM l2 (q : Int) c) → (∀ q v, getM l2 q = some v → v = reachB false a b z q G) → Below w3.heap.size w3 w4 → Knows a b z G bm w4 ∧ (Instr.lookup 86 (.map (some bm)) (.int .i64 (q : Int)) false).run Tryz.prog w4 = .ok (.bool c) w4) := fun l2 w3 w4 h1 h2 h3 => by
      refine ⟨⟨_, h1.later h3, fun q' v h => ?_⟩, ?_⟩
      · rw [getM_put] at h
        split at h
        · next e => subst e; rw [hc]; exact (Option.some.inj h).symm
        · exact h2 _ _ h
      · have := (h1.later h3).look false key_pos Tryz.underlying86 (zero_bool5 w4) (q : Int)
        rw [getM_put, if_pos rfl] at this
        simpa using this
    by_cases hqg : (q : Int) = G
    · have hct : c = true := by rw [← hc, hrec, decide_eq_true hqg]; rfl
      subst hct
      subst hqg
      clear hv hl hget CC hrec hgood ho hq hqb hle hc HC
      go_enter Tryz.func69, Tryz.ntmps69
      go_wp2_with fail
      clear k1 k2 hlk
      generalize w.alloc (.cells #[.int .i64 (q : Int)] 3) = W1 at *
      generalize w.heap.size = bp at *
      refine wp_region_from (fun w' => W1.grownBy w' (some bm)) (fun w' => Knows a b z (q : Int) bm w') (by kernel_rfl) (by kernel_rfl) (closed_gb _ _) closed_knows (grown_below (After.drew (After.refl _)) _) (HK1.out.later (After.drew (After.refl _))) ?_
      refine Script.load (i := 0) (v := ?_) rfl (by kernel_rfl) (by kernel_rfl) (fun _ _ _ h => h) (by kernel_rfl) ?_ ?_
      rotate_left
      · (intro wS hSw; have hF2 := HF1.out.grown hSw; have k1 := hF2.k; have k2 := World.grownBy.cell hSw HP1.out hneS.out; have k3 := hF2.g; go_simp; try with_reducible rfl)
      try simp only [Act.put, List.getElem_toArray, List.getElem_cons_succ, List.getElem_cons_zero, List.setIfInBounds_toArray, List.set_cons_zero, List.set_cons_succ]
      refine Script.load (i := 1) (v := ?_) rfl (by kernel_rfl) (by kernel_rfl) (fun _ _ _ h => h) (by kernel_rfl) ?_ ?_
      rotate_left
      · (intro wS hSw; have hF2 := HF1.out.grown hSw; have k1 := hF2.k; have k2 := World.grownBy.cell hSw HP1.out hneS.out; have k3 := hF2.g; go_simp; try with_reducible rfl)
      try simp only [Act.put, List.getElem_toArray, List.getElem_cons_succ, List.getElem_cons_zero, List.setIfInBounds_toArray, List.set_cons_zero, List.set_cons_succ]
      refine Script.load (i := 2) (v := ?_) rfl (by kernel_rfl) (by kernel_rfl) (fun _ _ _ h => h) (by kernel_rfl) ?_ ?_
      rotate_left
      · (intro wS hSw; have hF2 := HF1.out.grown hSw; have k1 := hF2.k; have k2 := World.grownBy.cell hSw HP1.out hneS.out; have k3 := hF2.g; go_simp; try with_reducible rfl)
      try simp only [Act.put, List.getElem_toArray, List.getElem_cons_succ, List.getElem_cons_zero, List.setIfInBounds_toArray, List.set_cons_zero, List.set_cons_succ]
      refine Script.load (i := 3) (v := ?_) rfl (by kernel_rfl) (by kernel_rfl) (fun _ _ _ h => h) (by kernel_rfl) ?_ ?_
      rotate_left
      · (intro wS hSw; have hF2 := HF1.out.grown hSw; have k1 := hF2.k; have k2 := World.grownBy.cell hSw HP1.out hneS.out; have k3 := hF2.g; go_simp; try with_reducible rfl)
      try simp only [Act.put, List.getElem_toArray, List.getElem_cons_succ, List.getElem_cons_zero, List.setIfInBounds_toArray, List.set_cons_zero, List.set_cons_succ]
      refine Script.load (i := 4) (v := ?_) rfl (by kernel_rfl) (by kernel_rfl) (fun _ _ _ h => h) (by kernel_rfl) ?_ ?_
      rotate_left
      · (intro wS hSw; have hF2 := HF1.out.grown hSw; have k1 := hF2.k; have k2 := World.grownBy.cell hSw HP1.out hneS.out; have k3 := hF2.g; go_simp; try with_reducible rfl)
      try simp only [Act.put, List.getElem_toArray, List.getElem_cons_succ, List.getElem_cons_zero, List.setIfInBounds_toArray, List.set_cons_zero, List.set_cons_succ]
      refine Script.load (i := 5) (v := ?_) rfl (by kernel_rfl) (by kernel_rfl) (fun _ _ _ h => h) (by kernel_rfl) ?_ ?_
      rotate_left
      · (intro wS hSw; have hF2 := HF1.out.grown hSw; have k1 := hF2.k; have k2 := World.grownBy.cell hSw HP1.out hneS.out; have k3 := hF2.g; go_simp; try with_reducible rfl)
      try simp only [Act.put, List.getElem_toArray, List.getElem_cons_succ, List.getElem_cons_zero, List.setIfInBounds_toArray, List.set_cons_zero, List.set_cons_succ]
      refine Script.skip (i := 6) rfl (by kernel_rfl) (by kernel_rfl) (fun _ _ _ h => h) (by kernel_rfl) ?_
      try simp only [Act.put, List.getElem_toArray, List.getElem_cons_succ, List.getElem_cons_zero, List.setIfInBounds_toArray, List.set_cons_zero, List.set_cons_succ]
      refine Script.skip (i := 7) rfl (by kernel_rfl) (by kernel_rfl) (fun _ _ _ h => h) (by kernel_rfl) ?_
      try simp only [Act.put, List.getElem_toArray, List.getElem_cons_succ, List.getElem_cons_zero, List.setIfInBounds_toArray, List.set_cons_zero, List.set_cons_succ]
      refine Script.skip (i := 8) rfl (by kernel_rfl) (by kernel_rfl) (fun _ _ _ h => h) (by kernel_rfl) ?_
      try simp only [Act.put, List.getElem_toArray, List.getElem_cons_succ, List.getElem_cons_zero, List.setIfInBounds_toArray, List.set_cons_zero, List.set_cons_succ]
      refine Script.load (i := 9) (v := ?_) rfl (by kernel_rfl) (by kernel_rfl) (fun _ _ _ h => h) (by kernel_rfl) ?_ ?_
      rotate_left
      · (intro wS hSw; have hF2 := HF1.out.grown hSw; have k1 := hF2.k; have k2 := World.grownBy.cell hSw HP1.out hneS.out; have k3 := hF2.g; go_simp; try with_reducible rfl)
      try simp only [Act.put, List.getElem_toArray, List.getElem_cons_succ, List.getElem_cons_zero, List.setIfInBounds_toArray, List.set_cons_zero, List.set_cons_succ]
      refine Script.last (i := 10) rfl (by kernel_rfl) (by kernel_rfl) (by kernel_rfl) ?_
      intro wO hO hGO K hK; have hSw := hO; have hF2 := HF1.out.grown hSw; have k1 := hF2.k; have k2 := World.grownBy.cell hSw HP1.out hneS.out; obtain ⟨l2, hl2, hv2⟩ := hGO; obtain ⟨wc, hrun, hm, hg⟩ := hl2.store key_pos Tryz.underlying86 (q : Int) true; go_simp
      have HVc := Lib.hid hv2
      have HMc := Lib.hid hm
      have HGc := Lib.hid (gb_trans HB1.out (gb_trans hO hg))
      have HFc := Lib.hid ((HF1.out.grown hO).grown hg)
      have HPc := Lib.hid (World.grownBy.cell hg (World.grownBy.cell hO HP1.out hneS.out) hneS.out)
      refine hK.out undef _ ?_
      clear hK K hm hg hrun hl2 hv2 hSw hF2 k1 k2
      try simp only [Act.put, List.getElem_toArray, List.getElem_cons_succ, List.getElem_cons_zero, List.setIfInBounds_toArray, List.set_cons_zero, List.set_cons_succ]
      refine Script.done (by kernel_rfl) ?_
      intro wD hD hG
      obtain ⟨hk, hlk⟩ := HEnd.out _ _ _ HMc.out HVc.out hD
      have HKD := Lib.hid hk
      have HBD := Lib.hid (gb_after HGc.out hD)
      have k1 := (HFc.out.later hD).k
      have k2 := World.grownBy.cell (grown_below hD (some bm)) HPc.out hneS.out
      clear hk hD hG
      go_wp2_with fail
      go_ret
      exact ⟨rfl, HKD.out, HBD.out⟩
    · have CC2 := CC hqg
      have hqb2 : ((q : Int) == G) = false := by simp [hqg]
      rw [hc] at CC2
      clear hv hl hget CC hrec hgood ho hq hqb hle hc HC
      go_enter Tryz.func69, Tryz.ntmps69
      go_wp2_with fail
      clear k1 k2 hlk
      generalize w.alloc (.cells #[.int .i64 (q : Int)] 3) = W1 at *
      generalize w.heap.size = bp at *
      refine wp_region_from (fun w' => W1.grownBy w' (some bm)) (fun w' => Knows a b z G bm w') (by kernel_rfl) (by kernel_rfl) (closed_gb _ _) closed_knows (grown_below (After.drew (After.refl _)) _) (HK1.out.later (After.drew (After.refl _))) ?_
      refine Script.load (i := 0) (v := ?_) rfl (by kernel_rfl) (by kernel_rfl) (fun _ _ _ h => h) (by kernel_rfl) ?_ ?_
      rotate_left
      · (intro wS hSw; have hF2 := HF1.out.grown hSw; have k1 := hF2.k; have k2 := World.grownBy.cell hSw HP1.out hneS.out; have k3 := hF2.g; have k4 := hF2.l; go_simp; try with_reducible rfl)
      try simp only [Act.put, List.getElem_toArray, List.getElem_cons_succ, List.getElem_cons_zero, List.setIfInBounds_toArray, List.set_cons_zero, List.set_cons_succ]
      refine Script.load (i := 1) (v := ?_) rfl (by kernel_rfl) (by kernel_rfl) (fun _ _ _ h => h) (by kernel_rfl) ?_ ?_
      rotate_left
      · (intro wS hSw; have hF2 := HF1.out.grown hSw; have k1 := hF2.k; have k2 := World.grownBy.cell hSw HP1.out hneS.out; have k3 := hF2.g; have k4 := hF2.l; go_simp; try with_reducible rfl)
      try simp only [Act.put, List.getElem_toArray, List.getElem_cons_succ, List.getElem_cons_zero, List.setIfInBounds_toArray, List.set_cons_zero, List.set_cons_succ]
      refine Script.load (i := 2) (v := ?_) rfl (by kernel_rfl) (by kernel_rfl) (fun _ _ _ h => h) (by kernel_rfl) ?_ ?_
      rotate_left
      · (intro wS hSw; have hF2 := HF1.out.grown hSw; have k1 := hF2.k; have k2 := World.grownBy.cell hSw HP1.out hneS.out; have k3 := hF2.g; have k4 := hF2.l; go_simp; try with_reducible rfl)
      try simp only [Act.put, List.getElem_toArray, List.getElem_cons_succ, List.getElem_cons_zero, List.setIfInBounds_toArray, List.set_cons_zero, List.set_cons_succ]
      refine Script.load (i := 3) (v := ?_) rfl (by kernel_rfl) (by kernel_rfl) (fun _ _ _ h => h) (by kernel_rfl) ?_ ?_
      rotate_left
      · (intro wS hSw; have hF2 := HF1.out.grown hSw; have k1 := hF2.k; have k2 := World.grownBy.cell hSw HP1.out hneS.out; have k3 := hF2.g; have k4 := hF2.l; go_simp; try with_reducible rfl)
      try simp only [Act.put, List.getElem_toArray, List.getElem_cons_succ, List.getElem_cons_zero, List.setIfInBounds_toArray, List.set_cons_zero, List.set_cons_succ]
      refine Script.load (i := 4) (v := ?_) rfl (by kernel_rfl) (by kernel_rfl) (fun _ _ _ h => h) (by kernel_rfl) ?_ ?_
      rotate_left
      · (intro wS hSw; have hF2 := HF1.out.grown hSw; have k1 := hF2.k; have k2 := World.grownBy.cell hSw HP1.out hneS.out; have k3 := hF2.g; have k4 := hF2.l; go_simp; try with_reducible rfl)
      try simp only [Act.put, List.getElem_toArray, List.getElem_cons_succ, List.getElem_cons_zero, List.setIfInBounds_toArray, List.set_cons_zero, List.set_cons_succ]
      refine Script.load (i := 5) (v := ?_) rfl (by kernel_rfl) (by kernel_rfl) (fun _ _ _ h => h) (by kernel_rfl) ?_ ?_
      rotate_left
      · (intro wS hSw; have hF2 := HF1.out.grown hSw; have k1 := hF2.k; have k2 := World.grownBy.cell hSw HP1.out hneS.out; have k3 := hF2.g; have k4 := hF2.l; go_simp; try with_reducible rfl)
      try simp only [Act.put, List.getElem_toArray, List.getElem_cons_succ, List.getElem_cons_zero, List.setIfInBounds_toArray, List.set_cons_zero, List.set_cons_succ]
      refine Script.load (i := 6) (v := ?_) rfl (by kernel_rfl) (by kernel_rfl) (fun _ _ _ h => h) (by kernel_rfl) ?_ ?_
      rotate_left
      · (intro wS hSw; have hF2 := HF1.out.grown hSw; have k1 := hF2.k; have k2 := World.grownBy.cell hSw HP1.out hneS.out; have k3 := hF2.g; have k4 := hF2.l; go_simp; try with_reducible rfl)
      try simp only [Act.put, List.getElem_toArray, List.getElem_cons_succ, List.getElem_cons_zero, List.setIfInBounds_toArray, List.set_cons_zero, List.set_cons_succ]
      refine Script.load (i := 7) (v := ?_) rfl (by kernel_rfl) (by kernel_rfl) (fun _ _ _ h => h) (by kernel_rfl) ?_ ?_
      rotate_left
      · (intro wS hSw; have hF2 := HF1.out.grown hSw; have k1 := hF2.k; have k2 := World.grownBy.cell hSw HP1.out hneS.out; have k3 := hF2.g; have k4 := hF2.l; go_simp; try with_reducible rfl)
      try simp only [Act.put, List.getElem_toArray, List.getElem_cons_succ, List.getElem_cons_zero, List.setIfInBounds_toArray, List.set_cons_zero, List.set_cons_succ]
      refine Script.oneG (i := 8) ((fun _ w' => Knows a b z G bm w')) rfl (by kernel_rfl) (by kernel_rfl) (closed_gb _ _) (fun _ => closed_knows) ?_
      intro wO8 hO8 hG8 K hK
      (have hSw := hO8; have hF2 := HF1.out.grown hSw; have k4 := hF2.l; go_simp; refine (CC2.out wO8 ⟨hG8, hO8⟩).mono ?_; rintro e wc ⟨rfl, hk, hg⟩; refine hK.out _ _ hg hk ?_; clear hk hg hF2 k4 hSw)
      clear hK K
      try simp only [Act.put, List.getElem_toArray, List.getElem_cons_succ, List.getElem_cons_zero, List.setIfInBounds_toArray, List.set_cons_zero, List.set_cons_succ]
      refine Script.load (i := 9) (v := ?_) rfl (by kernel_rfl) (by kernel_rfl) (fun _ _ _ h => h) (by kernel_rfl) ?_ ?_
      rotate_left
      · (intro wS hSw; have hF2 := HF1.out.grown hSw; have k1 := hF2.k; have k2 := World.grownBy.cell hSw HP1.out hneS.out; have k3 := hF2.g; have k4 := hF2.l; go_simp; try with_reducible rfl)
      try simp only [Act.put, List.getElem_toArray, List.getElem_cons_succ, List.getElem_cons_zero, List.setIfInBounds_toArray, List.set_cons_zero, List.set_cons_succ]
      refine Script.last (i := 10) rfl (by kernel_rfl) (by kernel_rfl) (by kernel_rfl) ?_
      intro wO hO hGO K hK; have hSw := hO; have hF2 := HF1.out.grown hSw; have k1 := hF2.k; have k2 := World.grownBy.cell hSw HP1.out hneS.out; obtain ⟨l2, hl2, hv2⟩ := hGO; obtain ⟨wc, hrun, hm, hg⟩ := hl2.store key_pos Tryz.underlying86 (q : Int) c; go_simp
      have HVc := Lib.hid hv2
      have HMc := Lib.hid hm
      have HGc := Lib.hid (gb_trans HB1.out (gb_trans hO hg))
      have HFc := Lib.hid ((HF1.out.grown hO).grown hg)
      have HPc := Lib.hid (World.grownBy.cell hg (World.grownBy.cell hO HP1.out hneS.out) hneS.out)
      refine hK.out undef _ ?_
      clear hK K hm hg hrun hl2 hv2 hSw hF2 k1 k2
      try simp only [Act.put, List.getElem_toArray, List.getElem_cons_succ, List.getElem_cons_zero, List.setIfInBounds_toArray, List.set_cons_zero, List.set_cons_succ]
      refine Script.done (by kernel_rfl) ?_
      intro wD hD hG
      obtain ⟨hk, hlk⟩ := HEnd.out _ _ _ HMc.out HVc.out hD
      have HKD := Lib.hid hk
      have HBD := Lib.hid (gb_after HGc.out hD)
      have k1 := (HFc.out.later hD).k
      have k2 := World.grownBy.cell (grown_below hD (some bm)) HPc.out hneS.out
      clear hk hD hG
      go_wp2_with fail
      go_ret
      exact ⟨rfl, HKD.out, HBD.out⟩
/-- The closure tells whether the goal can be reached. -/
theorem implGood {a b N z : Nat} (ho : Ok (a : Int) (b : Int) N z) (h16 : N ≤ 16) {G : Int} {B bk bg bl bi bm n vc : Nat} {va : Option Addr} {q : Nat} (hq : Part q z)
    (w : World) (hF : Fixed (lnsOf (a : Int) b z) G B bk bg bl bi bm va n vc w) (hK : Knows a b z G bm w) :
    Calls Tryz.prog 69 #[.int .i64 (q : Int), .pointer (some ⟨bk, 0, none⟩), .pointer (some ⟨bg, 0, none⟩), .pointer (some ⟨bl, 0, none⟩), .pointer (some ⟨bi, 0, none⟩)] w (fun e w' => e = .returned (.bool (reachB false a b z q G)) ∧ Knows a b z G bm w' ∧ w.grownBy w' (some bm)) := by
  obtain ⟨m, hm⟩ : ∃ m, pc 49 q = m := ⟨_, rfl⟩
  induction m using Nat.strongRecOn generalizing q w with
  | ind m ih => exact implGoodStep ho h16 hq (fun r hr hlt w hF hK => ih (pc 49 r) (by omega) hr w hF hK rfl) w hF hK
end Go.Proofs.YtlklnabnomfhbaaGreat
