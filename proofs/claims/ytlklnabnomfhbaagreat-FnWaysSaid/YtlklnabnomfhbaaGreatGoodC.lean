/- Whether a position and a jump are good, of the program: goodFor, goodJumpTo; what linesThatFit holds over it. -/
import Derived.Test.YtlklnabnomfhbaaGreatGoodB
import Derived.Laws.EntriesVeiled
namespace Go.Proofs.YtlklnabnomfhbaaGreat
open Go.RowKit
set_option linter.unusedVariables false
set_option linter.unusedSimpArgs false
/-- The blocks that goodFor makes behind its list of lines. -/
def goodW (w1 : World) (v g : Value) : World := (((w1.alloc (.cells #[v] 28)).alloc (.map #[] 0)).alloc (.cells #[.map (some (w1.heap.size + 1))] 86)).alloc (.cells #[g] 73)
theorem goodW_facts (w1 : World) (v g : Value) : (goodW w1 v g).heap[w1.heap.size]? = some (.cells #[v] 28 (0, 0)) ∧ (goodW w1 v g).heap[w1.heap.size + 1]? = some (.map #[] 0) ∧ (goodW w1 v g).heap[w1.heap.size + 1 + 1]? = some (.cells #[.map (some (w1.heap.size + 1))] 86 (0, 0)) ∧ (goodW w1 v g).heap[w1.heap.size + 1 + 1 + 1]? = some (.cells #[g] 73 (0, 0)) ∧ Below w1.heap.size w1 (goodW w1 v g) := by
  have h0 := heap_alloc_new w1 (.cells #[v] 28)
  have s0 : (w1.alloc (.cells #[v] 28)).heap.size = w1.heap.size + 1 := by simp
  have b0 : Below w1.heap.size w1 (w1.alloc (.cells #[v] 28)) := (Below.refl _ _).alloc (Nat.le_refl _) _
  unfold goodW
  generalize w1.alloc (.cells #[v] 28) = W1 at *
  have h1 := heap_alloc_new W1 (.map #[] 0)
  have h0 := row_alloc (o' := .map #[] 0) h0
  have s1 : (W1.alloc (.map #[] 0)).heap.size = w1.heap.size + 1 + 1 := by simp [s0]
  have b1 : Below w1.heap.size w1 (W1.alloc (.map #[] 0)) := b0.alloc b0.size _
  rw [s0] at h1
  generalize W1.alloc (.map #[] 0) = W2 at *
  have h2 := heap_alloc_new W2 (.cells #[.map (some (w1.heap.size + 1))] 86)
  have h0 := row_alloc (o' := .cells #[.map (some (w1.heap.size + 1))] 86) h0
  have h1 := row_alloc (o' := .cells #[.map (some (w1.heap.size + 1))] 86) h1
  have s2 : (W2.alloc (.cells #[.map (some (w1.heap.size + 1))] 86)).heap.size = w1.heap.size + 1 + 1 + 1 := by simp [s1]
  have b2 : Below w1.heap.size w1 (W2.alloc (.cells #[.map (some (w1.heap.size + 1))] 86)) := b1.alloc b1.size _
  rw [s1] at h2
  generalize W2.alloc (.cells #[.map (some (w1.heap.size + 1))] 86) = W3 at *
  have h3 := heap_alloc_new W3 (.cells #[g] 73)
  rw [s2] at h3
  exact ⟨row_alloc h0, row_alloc h1, row_alloc h2, h3, b2.alloc b2.size _⟩
theorem good_new {a b z : Nat} {xs : List Ln} {G : Int} {B bg n vc : Nat} {va : Option Addr} {w w1 : World} (hB : B ≤ w1.heap.size) (hb : Below B w w1) (hg : w1.cell? ⟨bg, 0, none⟩ = some (.int .i64 G)) (hr : w1.ownsRow B 39 3 (.slice va n vc) n (lv xs)) (hn : xs.length = n) :
    Fixed xs G B (w1.heap.size + 1 + 1) bg w1.heap.size (w1.heap.size + 1 + 1 + 1) (w1.heap.size + 1) va n vc (goodW w1 (.slice va n vc) (GoodV (w1.heap.size + 1 + 1) bg w1.heap.size (w1.heap.size + 1 + 1 + 1))) ∧ Knows a b z G (w1.heap.size + 1) (goodW w1 (.slice va n vc) (GoodV (w1.heap.size + 1 + 1) bg w1.heap.size (w1.heap.size + 1 + 1 + 1))) ∧ Below B w (goodW w1 (.slice va n vc) (GoodV (w1.heap.size + 1 + 1) bg w1.heap.size (w1.heap.size + 1 + 1 + 1))) := by
  obtain ⟨o0, o1, o2, o3, hb5⟩ := goodW_facts w1 (.slice va n vc) (GoodV (w1.heap.size + 1 + 1) bg w1.heap.size (w1.heap.size + 1 + 1 + 1))
  generalize goodW w1 (.slice va n vc) (GoodV (w1.heap.size + 1 + 1) bg w1.heap.size (w1.heap.size + 1 + 1 + 1)) = W5 at *
  have hlt : bg < w1.heap.size := World.block_lt_of_cell? w1 _ hg
  refine ⟨⟨?_, (hb5.cell hlt).trans hg, ?_, ?_, own_below hr hb5, hn, by omega, by omega, by omega, by omega, fun e => ?_, by omega, (Array.getElem?_eq_some_iff.1 o1).1⟩, ⟨[], ⟨#[], 0, o1, rfl⟩, fun q v h => by cases h⟩, hb.trans (hb5.mono hB)⟩
  · rw [cell_of_row _ _ _ _ _ _ o2]; rfl
  · rw [cell_of_row _ _ _ _ _ _ o0]; rfl
  · rw [cell_of_row _ _ _ _ _ _ o3]; rfl
  · have := (hr.lt _ e).2
    omega
/-- What goodFor returns: the closure over blocks of its own. -/
def GoodPost (a b z : Nat) (G : Int) (w : World) (e : Ending) (w' : World) : Prop :=
  ∃ bk bg bl bi bm va n vc, e = .returned (GoodV bk bg bl bi) ∧ Fixed (lnsOf (a : Int) b z) G w.heap.size bk bg bl bi bm va n vc w' ∧ Knows a b z G bm w' ∧ Below w.heap.size w w'
set_option maxHeartbeats 1000000 in
set_option maxRecDepth 100000 in
theorem implGoodFor (a b z : Nat) (G : Int) (w : World) : Calls Tryz.prog 48 #[.agg #[.int .i64 a, .int .i64 b, .int .i64 z], .int .i64 G] w (GoodPost a b z G w) := by
  have CL := Lib.hid (fun w => implLinesA (a : Int) b z w)
  obtain ⟨xs, hxs⟩ : ∃ xs, lnsOf (a : Int) b z = xs := ⟨_, rfl⟩
  unfold GoodPost
  rw [hxs] at CL ⊢
  obtain ⟨n, hn⟩ : ∃ n, xs.length = n := ⟨_, rfl⟩
  have HN := Lib.hid hn
  clear hn hxs
  go_enter Tryz.func48, Tryz.ntmps48
  go_wp2_with fail
  have B0 := Lib.hid ((box_new a b z w).later ((Below.refl _ _).alloc (Nat.le_refl _) (.cells #[.int .i64 G] 3)))
  have hS : (w.alloc (.cells #[.int .i64 (a : Int), .int .i64 (b : Int), .int .i64 (z : Int)] 25)).heap.size = w.heap.size + 1 := by simp
  have HG : Hid (((w.alloc (.cells #[.int .i64 (a : Int), .int .i64 (b : Int), .int .i64 (z : Int)] 25)).alloc (.cells #[.int .i64 G] 3)).cell? ⟨w.heap.size + 1, 0, none⟩ = some (.int .i64 G)) := by
    unfold Hid
    have := heap_alloc_new (w.alloc (.cells #[.int .i64 (a : Int), .int .i64 (b : Int), .int .i64 (z : Int)] 25)) (.cells #[.int .i64 G] 3)
    rw [hS] at this
    rw [cell_of_row _ _ _ _ _ _ this]; rfl
  have hS2 : ((w.alloc (.cells #[.int .i64 (a : Int), .int .i64 (b : Int), .int .i64 (z : Int)] 25)).alloc (.cells #[.int .i64 G] 3)).heap.size = w.heap.size + 2 := by simp
  generalize (w.alloc (.cells #[.int .i64 (a : Int), .int .i64 (b : Int), .int .i64 (z : Int)] 25)).alloc (.cells #[.int .i64 G] 3) = W1 at *
  clear hS
  obtain ⟨c0, c1, c2, hlt, hb1⟩ := B0.out
  go_wp2_with fail
  refine (CL.out _).mono ?_
  rintro e w1 ⟨v, rfl, hh, hb⟩
  rw [HN.out] at hh
  obtain ⟨va, vc, rfl⟩ := lines_form hh
  have hz := hb.size
  have HN5 := Lib.hid (good_new (a := a) (b := b) (z := z) (B := w.heap.size) (w := w) (by have := B0.out.2.2.2.2.size; omega) (B0.out.2.2.2.2.trans (hb.mono B0.out.2.2.2.2.size)) ((hb.cell (World.block_lt_of_cell? _ _ HG.out)).trans HG.out) (own_base hh B0.out.2.2.2.2.size) HN.out)
  clear c0 c1 c2 hlt hb1 hb hh HG
  have hmm := @run_makeMap Tryz.prog
  go_wp2_with fail
  go_ret
  obtain ⟨r1, r2, r3⟩ := HN5.out
  exact ⟨_, _, _, _, _, _, _, _, rfl, r1, r2, r3⟩
/-- The closure that tells whether a jump is good, over the closure for positions. -/
def JumpV (bj : Nat) : Value := .func (.func 49) #[] #[.pointer (some ⟨bj, 0, none⟩)]
structure JSt (xs : List Ln) (G : Int) (B bk bg bl bi bm : Nat) (va : Option Addr) (n vc bj : Nat) (w : World) : Prop where
  fix : Fixed xs G B bk bg bl bi bm va n vc w
  cell : w.cell? ⟨bj, 0, none⟩ = some (GoodV bk bg bl bi)
  nj : bj ≠ bm
theorem JSt.grown {xs : List Ln} {G : Int} {B bk bg bl bi bm n vc bj : Nat} {va : Option Addr} {w w' : World} (h : JSt xs G B bk bg bl bi bm va n vc bj w) (hg : w.grownBy w' (some bm)) : JSt xs G B bk bg bl bi bm va n vc bj w' :=
  ⟨h.fix.grown hg, hg.cell h.cell (fun e => h.nj (by simpa using e)), h.nj⟩
def JumpPost (a b z : Nat) (G : Int) (w : World) (e : Ending) (w' : World) : Prop :=
  ∃ bk bg bl bi bm va n vc bj, e = .returned (JumpV bj) ∧ JSt (lnsOf (a : Int) b z) G w.heap.size bk bg bl bi bm va n vc bj w' ∧ Knows a b z G bm w' ∧ Below w.heap.size w w'
theorem jump_new {a b z : Nat} {G : Int} {w w1 : World} {B bk bg bl bi bm n vc : Nat} {va : Option Addr} (hF : Fixed (lnsOf (a : Int) b z) G B bk bg bl bi bm va n vc w1) (hK : Knows a b z G bm w1) (hB : w.heap.size ≤ B) (hb : Below w.heap.size w w1) :
    JumpPost a b z G w (.returned (JumpV w1.heap.size)) (w1.alloc (.cells #[GoodV bk bg bl bi] 73)) := by
  have hba : Below w1.heap.size w1 (w1.alloc (.cells #[GoodV bk bg bl bi] 73)) := (Below.refl _ _).alloc (Nat.le_refl _) _
  have h0 := heap_alloc_new w1 (.cells #[GoodV bk bg bl bi] 73)
  have hF2 := hF.later hba
  have hlt := hF.lt
  refine ⟨bk, bg, bl, bi, bm, va, n, vc, _, rfl, ⟨⟨hF2.k, hF2.g, hF2.l, hF2.i, own_base hF2.row hB, hF2.len, hF2.nk, hF2.ng, hF2.nl, hF2.ni, hF2.nr, Nat.le_trans hB hF2.lo, hF2.lt⟩, ?_, by omega⟩, hK.later hba, hb.trans (hba.mono hb.size)⟩
  rw [cell_of_row _ _ _ _ _ _ h0]; rfl
set_option maxHeartbeats 1000000 in
set_option maxRecDepth 100000 in
theorem implJumpTo (a b z : Nat) (G : Int) (w : World) : Calls Tryz.prog 20 #[.agg #[.int .i64 a, .int .i64 b, .int .i64 z], .int .i64 G] w (JumpPost a b z G w) := by
  have CG := Lib.hid (fun w => implGoodFor a b z G w)
  go_enter Tryz.func20, Tryz.ntmps20
  go_wp2_with fail
  have B0 := Lib.hid (box_new a b z w)
  generalize w.alloc (.cells #[.int .i64 (a : Int), .int .i64 (b : Int), .int .i64 (z : Int)] 25) = W1 at *
  obtain ⟨c0, c1, c2, hlt, hb1⟩ := B0.out
  go_wp2_with fail
  refine (CG.out _).mono ?_
  rintro e w1 ⟨bk, bg, bl, bi, bm, va, n, vc, rfl, hF, hK, hb⟩
  have HP := Lib.hid (jump_new (w := w) hF hK hb1.size (hb1.trans (hb.mono hb1.size)))
  clear hF hK hb c0 c1 c2 hlt hb1 B0 CG
  unfold GoodV at HP ⊢
  go_wp2_with fail
  go_ret
  exact HP.out
set_option maxHeartbeats 4000000 in
set_option maxRecDepth 100000 in
theorem implJumpG {a b z q f o t r : Nat} {G : Int} {B bk bg bl bi bm n vc bj : Nat} {va : Option Addr} {xs : List Ln} {c : Bool} (hq : q < 562949953421312) (hf : f < 49) (ho : o < 49) (ht : t < 49) (hfl : flipN q f o t = r)
    (hgood : befN q f o t = true → ∀ w, Fixed xs G B bk bg bl bi bm va n vc w → Knows a b z G bm w → Calls Tryz.prog 69 #[.int .i64 (r : Int), .pointer (some ⟨bk, 0, none⟩), .pointer (some ⟨bg, 0, none⟩), .pointer (some ⟨bl, 0, none⟩), .pointer (some ⟨bi, 0, none⟩)] w (fun e w' => e = .returned (.bool c) ∧ Knows a b z G bm w' ∧ w.grownBy w' (some bm)))
    (w : World) (hJ : JSt xs G B bk bg bl bi bm va n vc bj w) (hK : Knows a b z G bm w) :
    Calls Tryz.prog 49 #[.int .i64 (q : Int), .agg #[.int .i64 (f : Int), .int .i64 (o : Int), .int .i64 (t : Int)], .pointer (some ⟨bj, 0, none⟩)] w (fun e w' => e = .returned (.bool (befN q f o t && c)) ∧ Knows a b z G bm w' ∧ w.grownBy w' (some bm)) := by
  have CB := Lib.hid (fun w => implBef q f o t hf ho ht w)
  have CF := Lib.hid (fun w => implFlip q f o t hq hf ho ht w)
  rw [hfl] at CF
  have hba : Below w.heap.size w (w.alloc (.cells #[.int .i64 (f : Int), .int .i64 (o : Int), .int .i64 (t : Int)] 39)) := (Below.refl _ _).alloc (Nat.le_refl _) _
  have HK1 := Lib.hid (hK.later hba)
  have HB1 := Lib.hid (grown_below hba (some bm))
  have HJ1 := Lib.hid (hJ.grown HB1.out)
  have hlS : Hid (some w.heap.size ≠ some bm) := fun e => by have := hJ.fix.lt; simp at e; omega
  clear hJ hK hba hq hf ho ht hfl
  cases hb : befN q f o t
  · rw [hb] at CB
    clear hgood CF hb
    go_enter Tryz.func49, Tryz.ntmps49
    go_wp2_with fail
    have B0 := Lib.hid (box_newT 39 f o t w)
    generalize (w.alloc (.cells #[.int .i64 (f : Int), .int .i64 (o : Int), .int .i64 (t : Int)] 39)) = W1 at *
    refine wp_region_script (by kernel_rfl) (by kernel_rfl) ?_
    refine Script.load (i := 0) (v := ?_) rfl (by kernel_rfl) (by kernel_rfl) (fun _ _ _ h => h) (by kernel_rfl) ?_ ?_
    rotate_left
    · (intro wS hSw; obtain ⟨c0, c1, c2, -, -⟩ := B0.out.later (After.trans (After.drew (After.refl _)) hSw); go_simp; try with_reducible rfl)
    try simp only [Act.put, List.getElem_toArray, List.getElem_cons_succ, List.getElem_cons_zero, List.setIfInBounds_toArray, List.set_cons_zero, List.set_cons_succ]
    refine Script.load (i := 1) (v := ?_) rfl (by kernel_rfl) (by kernel_rfl) (fun _ _ _ h => h) (by kernel_rfl) ?_ ?_
    rotate_left
    · (intro wS hSw; obtain ⟨c0, c1, c2, -, -⟩ := B0.out.later (After.trans (After.drew (After.refl _)) hSw); go_simp; try with_reducible rfl)
    try simp only [Act.put, List.getElem_toArray, List.getElem_cons_succ, List.getElem_cons_zero, List.setIfInBounds_toArray, List.set_cons_zero, List.set_cons_succ]
    refine Script.call (i := 2) (v := ?_) rfl (by kernel_rfl) (by kernel_rfl) (fun _ _ _ h => h) (by kernel_rfl) ?_ ?_
    rotate_left
    · (intro wS hSw K hK; obtain ⟨c0, c1, c2, -, -⟩ := B0.out.later (After.trans (After.drew (After.refl _)) hSw); go_simp; go_at_call 50; refine (CB.out _).mono ?_; rintro e wc ⟨rfl, hbc⟩; exact hK.out _ hbc)
    try simp only [Act.put, List.getElem_toArray, List.getElem_cons_succ, List.getElem_cons_zero, List.setIfInBounds_toArray, List.set_cons_zero, List.set_cons_succ]
    refine Script.load (i := 3) (v := ?_) rfl (by kernel_rfl) (by kernel_rfl) (fun _ _ _ h => h) (by kernel_rfl) ?_ ?_
    rotate_left
    · (intro wS hSw; obtain ⟨c0, c1, c2, -, -⟩ := B0.out.later (After.trans (After.drew (After.refl _)) hSw); go_simp; try with_reducible rfl)
    try simp only [Act.put, List.getElem_toArray, List.getElem_cons_succ, List.getElem_cons_zero, List.setIfInBounds_toArray, List.set_cons_zero, List.set_cons_succ]
    refine Script.skip (i := 4) rfl (by kernel_rfl) (by kernel_rfl) (fun _ _ _ h => h) (by kernel_rfl) ?_
    try simp only [Act.put, List.getElem_toArray, List.getElem_cons_succ, List.getElem_cons_zero, List.setIfInBounds_toArray, List.set_cons_zero, List.set_cons_succ]
    refine Script.skip (i := 5) rfl (by kernel_rfl) (by kernel_rfl) (fun _ _ _ h => h) (by kernel_rfl) ?_
    try simp only [Act.put, List.getElem_toArray, List.getElem_cons_succ, List.getElem_cons_zero, List.setIfInBounds_toArray, List.set_cons_zero, List.set_cons_succ]
    refine Script.skip (i := 6) rfl (by kernel_rfl) (by kernel_rfl) (fun _ _ _ h => h) (by kernel_rfl) ?_
    try simp only [Act.put, List.getElem_toArray, List.getElem_cons_succ, List.getElem_cons_zero, List.setIfInBounds_toArray, List.set_cons_zero, List.set_cons_succ]
    refine Script.skip (i := 7) rfl (by kernel_rfl) (by kernel_rfl) (fun _ _ _ h => h) (by kernel_rfl) ?_
    try simp only [Act.put, List.getElem_toArray, List.getElem_cons_succ, List.getElem_cons_zero, List.setIfInBounds_toArray, List.set_cons_zero, List.set_cons_succ]
    refine Script.skip (i := 8) rfl (by kernel_rfl) (by kernel_rfl) (fun _ _ _ h => h) (by kernel_rfl) ?_
    try simp only [Act.put, List.getElem_toArray, List.getElem_cons_succ, List.getElem_cons_zero, List.setIfInBounds_toArray, List.set_cons_zero, List.set_cons_succ]
    refine Script.load (i := 9) (v := ?_) rfl (by kernel_rfl) (by kernel_rfl) (fun _ _ _ h => h) (by kernel_rfl) ?_ ?_
    rotate_left
    · (intro wS hSw; obtain ⟨c0, c1, c2, -, -⟩ := B0.out.later (After.trans (After.drew (After.refl _)) hSw); go_simp; try with_reducible rfl)
    try simp only [Act.put, List.getElem_toArray, List.getElem_cons_succ, List.getElem_cons_zero, List.setIfInBounds_toArray, List.set_cons_zero, List.set_cons_succ]
    refine Script.load (i := 10) (v := ?_) rfl (by kernel_rfl) (by kernel_rfl) (fun _ _ _ h => h) (by kernel_rfl) ?_ ?_
    rotate_left
    · (intro wS hSw; obtain ⟨c0, c1, c2, -, -⟩ := B0.out.later (After.trans (After.drew (After.refl _)) hSw); go_simp; try with_reducible rfl)
    try simp only [Act.put, List.getElem_toArray, List.getElem_cons_succ, List.getElem_cons_zero, List.setIfInBounds_toArray, List.set_cons_zero, List.set_cons_succ]
    refine Script.done (by kernel_rfl) ?_
    intro wD hD hG
    have HK2 := Lib.hid (HK1.out.later (After.trans (After.drew (After.refl _)) hD))
    have HB2 := Lib.hid (gb_after HB1.out (After.trans (After.drew (After.refl _)) hD))
    clear hD hG
    go_wp2_with fail
    go_ret
    exact ⟨rfl, HK2.out, HB2.out⟩
  · have CG := Lib.hid (hgood hb)
    rw [hb] at CB
    clear hgood hb
    go_enter Tryz.func49, Tryz.ntmps49
    go_wp2_with fail
    have B0 := Lib.hid (box_newT 39 f o t w)
    have HC1 : Hid (∀ w', (w.alloc (.cells #[.int .i64 (f : Int), .int .i64 (o : Int), .int .i64 (t : Int)] 39)).grownBy w' (some bm) → w'.cell? ⟨w.heap.size, 0, none⟩ = some (.int .i64 (f : Int)) ∧ w'.cell? ⟨w.heap.size, 1, none⟩ = some (.int .i64 (o : Int)) ∧ w'.cell? ⟨w.heap.size, 2, none⟩ = some (.int .i64 (t : Int))) := fun w' h => by
      obtain ⟨x0, x1, x2, -, -⟩ := B0.out
      exact ⟨h.cell x0 hlS.out, h.cell x1 hlS.out, h.cell x2 hlS.out⟩
    generalize (w.alloc (.cells #[.int .i64 (f : Int), .int .i64 (o : Int), .int .i64 (t : Int)] 39)) = W1 at *
    refine wp_region_from (fun w' => W1.grownBy w' (some bm)) (fun w' => Knows a b z G bm w') (by kernel_rfl) (by kernel_rfl) (closed_gb _ _) closed_knows (grown_below (After.drew (After.refl _)) _) (HK1.out.later (After.drew (After.refl _))) ?_
    refine Script.load (i := 0) (v := ?_) rfl (by kernel_rfl) (by kernel_rfl) (fun _ _ _ h => h) (by kernel_rfl) ?_ ?_
    rotate_left
    · (intro wS hSw; obtain ⟨c0, c1, c2⟩ := HC1.out _ hSw; have k2 := (HJ1.out.grown hSw).cell; unfold GoodV at k2; go_simp; try with_reducible rfl)
    try simp only [Act.put, List.getElem_toArray, List.getElem_cons_succ, List.getElem_cons_zero, List.setIfInBounds_toArray, List.set_cons_zero, List.set_cons_succ]
    refine Script.load (i := 1) (v := ?_) rfl (by kernel_rfl) (by kernel_rfl) (fun _ _ _ h => h) (by kernel_rfl) ?_ ?_
    rotate_left
    · (intro wS hSw; obtain ⟨c0, c1, c2⟩ := HC1.out _ hSw; have k2 := (HJ1.out.grown hSw).cell; unfold GoodV at k2; go_simp; try with_reducible rfl)
    try simp only [Act.put, List.getElem_toArray, List.getElem_cons_succ, List.getElem_cons_zero, List.setIfInBounds_toArray, List.set_cons_zero, List.set_cons_succ]
    refine Script.call (i := 2) (v := ?_) rfl (by kernel_rfl) (by kernel_rfl) (fun _ _ _ h => h) (by kernel_rfl) ?_ ?_
    rotate_left
    · (intro wS hSw K hK; obtain ⟨c0, c1, c2⟩ := HC1.out _ hSw; have k2 := (HJ1.out.grown hSw).cell; unfold GoodV at k2; go_simp; go_at_call 50; refine (CB.out _).mono ?_; rintro e wc ⟨rfl, hbc⟩; exact hK.out _ hbc)
    try simp only [Act.put, List.getElem_toArray, List.getElem_cons_succ, List.getElem_cons_zero, List.setIfInBounds_toArray, List.set_cons_zero, List.set_cons_succ]
    refine Script.load (i := 3) (v := ?_) rfl (by kernel_rfl) (by kernel_rfl) (fun _ _ _ h => h) (by kernel_rfl) ?_ ?_
    rotate_left
    · (intro wS hSw; obtain ⟨c0, c1, c2⟩ := HC1.out _ hSw; have k2 := (HJ1.out.grown hSw).cell; unfold GoodV at k2; go_simp; try with_reducible rfl)
    try simp only [Act.put, List.getElem_toArray, List.getElem_cons_succ, List.getElem_cons_zero, List.setIfInBounds_toArray, List.set_cons_zero, List.set_cons_succ]
    refine Script.load (i := 4) (v := ?_) rfl (by kernel_rfl) (by kernel_rfl) (fun _ _ _ h => h) (by kernel_rfl) ?_ ?_
    rotate_left
    · (intro wS hSw; obtain ⟨c0, c1, c2⟩ := HC1.out _ hSw; have k2 := (HJ1.out.grown hSw).cell; unfold GoodV at k2; go_simp; try with_reducible rfl)
    try simp only [Act.put, List.getElem_toArray, List.getElem_cons_succ, List.getElem_cons_zero, List.setIfInBounds_toArray, List.set_cons_zero, List.set_cons_succ]
    refine Script.load (i := 5) (v := ?_) rfl (by kernel_rfl) (by kernel_rfl) (fun _ _ _ h => h) (by kernel_rfl) ?_ ?_
    rotate_left
    · (intro wS hSw; obtain ⟨c0, c1, c2⟩ := HC1.out _ hSw; have k2 := (HJ1.out.grown hSw).cell; unfold GoodV at k2; go_simp; try with_reducible rfl)
    try simp only [Act.put, List.getElem_toArray, List.getElem_cons_succ, List.getElem_cons_zero, List.setIfInBounds_toArray, List.set_cons_zero, List.set_cons_succ]
    refine Script.load (i := 6) (v := ?_) rfl (by kernel_rfl) (by kernel_rfl) (fun _ _ _ h => h) (by kernel_rfl) ?_ ?_
    rotate_left
    · (intro wS hSw; obtain ⟨c0, c1, c2⟩ := HC1.out _ hSw; have k2 := (HJ1.out.grown hSw).cell; unfold GoodV at k2; go_simp; try with_reducible rfl)
    try simp only [Act.put, List.getElem_toArray, List.getElem_cons_succ, List.getElem_cons_zero, List.setIfInBounds_toArray, List.set_cons_zero, List.set_cons_succ]
    refine Script.call (i := 7) (v := ?_) rfl (by kernel_rfl) (by kernel_rfl) (fun _ _ _ h => h) (by kernel_rfl) ?_ ?_
    rotate_left
    · (intro wS hSw K hK; obtain ⟨c0, c1, c2⟩ := HC1.out _ hSw; have k2 := (HJ1.out.grown hSw).cell; unfold GoodV at k2; go_simp; go_at_call 22; refine (CF.out _).mono ?_; rintro e wc ⟨rfl, hbc⟩; exact hK.out _ hbc)
    try simp only [Act.put, List.getElem_toArray, List.getElem_cons_succ, List.getElem_cons_zero, List.setIfInBounds_toArray, List.set_cons_zero, List.set_cons_succ]
    refine Script.oneG (i := 8) ((fun _ w' => Knows a b z G bm w')) rfl (by kernel_rfl) (by kernel_rfl) (closed_gb _ _) (fun _ => closed_knows) ?_
    intro wO8 hO8 hG8 K hK
    (have hSw := hO8; have k2 := (HJ1.out.grown hSw).cell; unfold GoodV at k2; go_simp; refine (CG.out wO8 (HJ1.out.grown hSw).fix hG8).mono ?_; rintro e wc ⟨rfl, hk, hg⟩; refine hK.out _ _ (gb_trans hO8 hg) hk ?_; clear hk hg k2 hSw)
    clear hK K
    try simp only [Act.put, List.getElem_toArray, List.getElem_cons_succ, List.getElem_cons_zero, List.setIfInBounds_toArray, List.set_cons_zero, List.set_cons_succ]
    refine Script.load (i := 9) (v := ?_) rfl (by kernel_rfl) (by kernel_rfl) (fun _ _ _ h => h) (by kernel_rfl) ?_ ?_
    rotate_left
    · (intro wS hSw; obtain ⟨c0, c1, c2⟩ := HC1.out _ hSw; have k2 := (HJ1.out.grown hSw).cell; unfold GoodV at k2; go_simp; try with_reducible rfl)
    try simp only [Act.put, List.getElem_toArray, List.getElem_cons_succ, List.getElem_cons_zero, List.setIfInBounds_toArray, List.set_cons_zero, List.set_cons_succ]
    refine Script.load (i := 10) (v := ?_) rfl (by kernel_rfl) (by kernel_rfl) (fun _ _ _ h => h) (by kernel_rfl) ?_ ?_
    rotate_left
    · (intro wS hSw; obtain ⟨c0, c1, c2⟩ := HC1.out _ hSw; have k2 := (HJ1.out.grown hSw).cell; unfold GoodV at k2; go_simp; try with_reducible rfl)
    try simp only [Act.put, List.getElem_toArray, List.getElem_cons_succ, List.getElem_cons_zero, List.setIfInBounds_toArray, List.set_cons_zero, List.set_cons_succ]
    refine Script.done (by kernel_rfl) ?_
    intro wD hD hG
    have HK2 := Lib.hid hG
    have HB2 := Lib.hid (gb_trans HB1.out hD)
    clear hD hG
    go_wp2_with fail
    go_ret
    exact ⟨rfl, HK2.out, HB2.out⟩
theorem Knows.kept {a b z : Nat} {G : Int} {B bm : Nat} {w w' : World} (h : Knows a b z G bm w) (hb : Below B w w') (hB : bm < B) : Knows a b z G bm w' := by
  obtain ⟨l, ⟨es, clock, h1, h2⟩, hv⟩ := h
  exact ⟨l, ⟨es, clock, by rw [hb.block _ hB]; exact h1, h2⟩, hv⟩
/-- The lines that fit, beside the board's block, the list that is read and the memory. -/
structure FitSt (w0 : World) (W H Z : Int) (a b z : Nat) (G : Int) (bm : Nat) (ga : Option Addr) (n gc : Nat) (xs : List Ln) (v : Value) (out : List Ln) (w : World) : Prop where
  box : w.cell? ⟨w0.heap.size, 0, none⟩ = some (.int .i64 W) ∧ w.cell? ⟨w0.heap.size, 1, none⟩ = some (.int .i64 H) ∧ w.cell? ⟨w0.heap.size, 2, none⟩ = some (.int .i64 Z) ∧ w0.heap.size < w.heap.size
  ls : w.ownsRow (w0.heap.size + 1) 39 3 (.slice ga n gc) n (lv xs)
  len : xs.length = n
  out : w.ownsRow (w0.heap.size + 1) 39 3 v out.length (lv out)
  apart : ∀ g0, ga = some ⟨g0, 0, none⟩ → v.ownBlock ≠ some g0
  kn : Knows a b z G bm w
  gb : w0.grownBy w (some bm)
  lt : bm < w0.heap.size
section
variable {w0 w w' : World} {W H Z : Int} {a b z bm n gc : Nat} {G : Int} {ga : Option Addr} {xs out : List Ln} {v : Value}
theorem FitSt.turn (h : FitSt w0 W H Z a b z G bm ga n gc xs v out w) (hg : w.grownBy w' (some bm)) (hk : Knows a b z G bm w') : FitSt w0 W H Z a b z G bm ga n gc xs v out w' := by
  have hlt := h.lt
  have hn0 : some w0.heap.size ≠ some bm := fun e => by simp at e; omega
  refine ⟨⟨hg.cell h.box.1 hn0, hg.cell h.box.2.1 hn0, hg.cell h.box.2.2.1 hn0, Nat.lt_of_lt_of_le h.box.2.2.2 hg.size⟩, h.ls.kept hg (.inr fun e => ?_), h.len, h.out.kept hg (.inr fun e => ?_), h.apart, hk, gb_trans h.gb hg, h.lt⟩
  · have := (h.ls.lt _ e).1; omega
  · have := (h.out.lt _ e).1; omega
theorem FitSt.later (h : FitSt w0 W H Z a b z G bm ga n gc xs v out w) (hb : Below w.heap.size w w') : FitSt w0 W H Z a b z G bm ga n gc xs v out w' := h.turn (grown_below hb _) (h.kn.later hb)
theorem FitSt.take (h : FitSt w0 W H Z a b z G bm ga n gc xs v out w) (hb : Below w.heap.size w w') {ga' : Option Addr} {n' gc' : Nat} {xs' : List Ln} (hl : w'.ownsRow w.heap.size 39 3 (.slice ga' n' gc') n' (lv xs')) (hn : xs'.length = n') : FitSt w0 W H Z a b z G bm ga' n' gc' xs' v out w' := by
  have h' := h.later hb
  refine ⟨h'.box, own_base hl h.box.2.2.2, hn, h'.out, fun g0 hg e => ?_, h'.kn, h'.gb, h.lt⟩
  have h1 := (hl.lt g0 (by rw [hg]; rfl)).1
  have h2 := (h.out.lt g0 e).2
  omega
theorem FitSt.push (h : FitSt w0 W H Z a b z G bm ga n gc xs v out w) {g cap : Nat} {f o t : Int}
    (hown : w'.ownsRow (w0.heap.size + 1) 39 3 (.slice (some ⟨g, 0, none⟩) (out.length + 1) cap) (out.length + 1) (lv (out ++ [(f, o, t)]))) (hgrow : (w.alloc (.cells #[.int .i64 f, .int .i64 o, .int .i64 t] 39)).grownBy w' v.ownBlock) (hb : Below (w0.heap.size + 1) w w') (hat : v.ownBlock = some g ∨ g = w.heap.size + 1) :
    FitSt w0 W H Z a b z G bm ga n gc xs (.slice (some ⟨g, 0, none⟩) (out.length + 1) cap) (out ++ [(f, o, t)]) w' := by
  have hba : Below w.heap.size w (w.alloc (.cells #[.int .i64 f, .int .i64 o, .int .i64 t] 39)) := (Below.refl _ _).alloc (Nat.le_refl _) _
  have hlt := h.lt
  have hs := Nat.lt_succ_self w0.heap.size
  refine ⟨⟨(hb.cell hs).trans h.box.1, (hb.cell hs).trans h.box.2.1, (hb.cell hs).trans h.box.2.2.1, Nat.lt_of_lt_of_le h.box.2.2.2 hb.size⟩, ?_, h.len, by rw [List.length_append]; exact hown, fun g0 hg e => ?_, h.kn.kept hb (by omega), ⟨hb.os.trans h.gb.os, hb.tape.trans h.gb.tape, hb.output.trans h.gb.output, Nat.le_trans h.gb.size hb.size, fun j hj hn => (hb.block j (by omega)).trans (h.gb.block j hj hn)⟩, h.lt⟩
  · refine (own_below h.ls hba).kept hgrow ?_
    rcases Go.Joins.ownsRow_forms h.ls with ⟨h1, -⟩ | ⟨g', cap', h1⟩
    · left; injection h1 with h1 _ _; subst h1; rfl
    · right
      injection h1 with h1 _ _
      subst h1
      exact fun e => h.apart g' rfl e.symm
  · have hg' : g = g0 := by simpa [Value.ownBlock] using e
    subst hg'
    rcases hat with h3 | h3
    · exact h.apart g hg h3
    · have := (h.ls.lt g (by rw [hg]; rfl)).2
      omega
theorem FitSt.cells (h : FitSt w0 W H Z a b z G bm ga n gc xs v out w) {i : Nat} {l : Ln} (hi : xs[i]? = some l) : ∃ g, ga = some ⟨g, 0, none⟩ ∧ w.cell? ⟨g, i * 3, none⟩ = some (.int .i64 l.1) ∧ w.cell? ⟨g, i * 3 + 1, none⟩ = some (.int .i64 l.2.1) ∧ w.cell? ⟨g, i * 3 + 2, none⟩ = some (.int .i64 l.2.2) := by
  have hlt := (List.getElem?_eq_some_iff.1 hi).1
  rw [h.len] at hlt
  obtain ⟨g, rfl⟩ : ∃ g, ga = some ⟨g, 0, none⟩ := by
    rcases Go.Joins.ownsRow_forms h.ls with ⟨h, h0⟩ | ⟨g, cap, h⟩
    · omega
    · injection h with h1 h2 h3; exact ⟨g, h1⟩
  exact ⟨g, rfl, line_cells h.ls h.len hi⟩
end
/-- A jump that is good at a position. -/
def fitB (W H Z G P : Int) (l : Ln) : Bool := befL P l && reachB false W H Z (flipL P l) G
theorem goodL_fit {W H Z P G : Int} (h : posB W H Z P = true) : goodL W H Z P G = (lnsOf W H Z).filter (fitB W H Z G P) := by
  unfold goodL jumpsL
  rw [if_pos h, List.filter_filter]
  congr 1
  funext l
  exact Bool.and_comm _ _
theorem goodL_pos {W H Z P G : Int} (h : posB W H Z P = false) : goodL W H Z P G = [] := goodL_no (by rw [h]; simp)
end Go.Proofs.YtlklnabnomfhbaaGreat
