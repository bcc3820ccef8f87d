/- A range over a function whose rounds are handed one value each, of which something is known in the world in which it is handed over (a list in new memory). Of no program. Proofs by weights as lists: the numbers of Fibonacci, lists over a grid, which weights prove that no game leads from one position to another, the first such list. Of no program. ClassWeights, ColumnWeights, RowWeights of the program: the numbers of Fibonacci, the rules by column and row, the list over the grid. ClassWeights, ColumnWeights, RowWeights of the program. IsProof of both. Of lists of at most 1048576 ints. ClassWeights, ColumnWeights, RowWeights of the model. FindProof of the program: the iterator over the weights that are tried, the loop over it. FindProof of the model. -/
import Derived.RangeFuncNested
import Derived.RangeFuncBound
import Derived.RangeFuncCalls
import Derived.RangeFuncLeaves
import Derived.Shelf.Abstract
import Derived.Shelf.RegionOpen
import Derived.WalkKit
import Derived.OwnWalkIn
import Derived.TacticsInMore
import Derived.LoopNIn
import Derived.LoopIn
import Derived.Below
import Derived.Test.YtllfgdcplbfdhaaGreatWeights
import Derived.Test.YtllfgdcplbfdhaaGreatBoards
import Derived.Test.YtllfgdcplbfdhaaGreatLinesAll
namespace Go.Proofs.YtllfgdcplbfdhaaGreat
open Go.RowKit
/-- What a round leaves alone: each block from B on that lay when it began. -/
def Stays (B : Nat) (W W' : World) : Prop := W.heap.size ≤ W'.heap.size ∧ ∀ k, B ≤ k → k < W.heap.size → W'.heap[k]? = W.heap[k]?
theorem Stays.of_below {B : Nat} {W W' : World} (h : Below W.heap.size W W') : Stays B W W' := ⟨h.size, fun k _ hk => h.block k hk⟩
theorem Stays.obj {B k : Nat} {W W' : World} {o : Obj} (h : Stays B W W') (hB : B ≤ k) (ho : W.heap[k]? = some o) : W'.heap[k]? = some o := (h.2 k hB (Array.getElem?_eq_some_iff.1 ho).1).trans ho
/-- How a round's body may be left: it goes on, or it returns from the function around it. -/
def seqPost (B : Nat) (I : Nat → World → Prop) (Ix : World → Prop) (j : Nat) (W : World) : Exit → Act → World → Prop
  | .normal, _, W' => Stays B W W' ∧ Below B W W' ∧ I (j + 1) W'
  | .ret, _, W' => Stays B W W' ∧ Ix W'
  | _, _, _ => False
/-- What an iterator of N rounds promises: 'U j v W': what is told of the value v of round j. -/
def SeqHands (F : Fence) (n : Nat) (P : Program) (g : Nat) (lb : Array Value) (U : Nat → Value → World → Prop) (N : Nat) (w : World) : Prop :=
  ∀ (l : Nat) (J : Nat → World → Prop) (Jx : World → Prop) (W : World), Below w.heap.size w W → (∀ j A C, J j A → Below A.heap.size A C → J j C) → (∀ A C, Jx A → Below A.heap.size A C → Jx C) →
    (∀ j v W1, j < N → J j W1 → U j v W1 → YieldAt F (n - 1) P l #[v] W1 fun e W' => (e = .returned (.bool true) ∧ J (j + 1) W' ∧ Below w.heap.size W1 W') ∨ (e = .returned (.bool false) ∧ Jx W')) →
    J 0 W → CallsIn F n P g (#[.func (.yield l) #[] #[]] ++ lb) W fun e W' => (∃ v, e = .returned v) ∧ (J N W' ∨ Jx W')
theorem below_put {B : Nat} {W : World} {l : Nat} (o o' : Obj) (hB : B ≤ l) (h : W.heap[l]? = some o) : Below B W (W.putObj l o') :=
  (Below.refl B W).grown (grownBy_putObj' W l o') (by have := (Array.getElem?_eq_some_iff.1 h).1; omega) (fun k e => by cases e; exact hB)
theorem grows {W W' : World} (h : Below W.heap.size W W') : W.grownBy W' none := ⟨h.os, h.tape, h.output, h.size, fun j hj _ => h.block j hj⟩
variable {F : Fence} {n : Nat} {P : Program}
/-- The statement 'for v := range g { .. }', its iterator by what it promises. -/
theorem wpIn_hands {g : Operand} {ps : Array Tmp} {assign body : Code} {Q : Exit → Act → World → Prop} {a : Act} {w : World}
    (hro : F.round = none) (h1 : 1 ≤ n) {gf : Nat} {lb : Array Value} (hg : a.eval g = .func (.func gf) #[] lb) (hFg : F.fn gf) (eg : ∀ args w, (callFunc gf args).run P w = .ok (.enter gf args) w)
    {U : Nat → Value → World → Prop} {N : Nat} (hseq : SeqHands F (n - 1) P gf lb U N w) (hU : ∀ j v, OwnFrom w.heap.size (fun (_ : Unit) W => U j v W)) (hps : ps.size = 1)
    (I : Nat → World → Prop) (Ix : World → Prop) (hI : OwnFrom w.heap.size I) (hIx : OwnFrom w.heap.size (fun (_ : Unit) W => Ix W)) (h0 : I 0 w) (a₁ : Value → Act)
    (hassign : ∀ (l : Nat) (v : Value) (W : World) (K : Act → World → Prop), K (a₁ v) W →
      assign.wpIn (F.inRound l) (n - 1 - 1) P (Exit.then K (fun _ _ _ => False)) { tmps := (ps.zip #[v]).foldl (fun t (p, v) => t.setIfInBounds p v) a.tmps, defers := [] } W)
    (hbody : ∀ (l j : Nat) (v : Value) (W : World), j < N → I j W → U j v W → w.heap.size ≤ W.heap.size → body.wpIn (F.inRound l) (n - 1 - 1) P (seqPost w.heap.size I Ix j W) (a₁ v) W)
    (hdone : ∀ (D : Nat) (W : World), w.heap.size ≤ D → I N W → W.heap[D]? = some (.deferred (some [])) → Q .normal { a with defers := { target := .collected D, args := #[] } :: a.defers } W)
    (hstop : ∀ (D : Nat) (W : World), w.heap.size ≤ D → Ix W → W.heap[D]? = some (.deferred (some [])) → Code.ret.wpIn F n P Q { a with defers := { target := .collected D, args := #[] } :: a.defers } W) :
    (Code.rangeFunc g ps assign body).wpIn F n P Q a w := by
  refine wpIn_rangeFunc ?_
  intro fn hfn
  rw [hro]
  obtain ⟨rc, hrc⟩ : ∃ rc : LoopState → Option Code → Loop, rc = fun st pe => { state := st, pending := pe, fn, tmps := a.tmps, params := ps, assign, body, defers := w.heap.size } := ⟨_, rfl⟩
  obtain ⟨B, hB⟩ : ∃ B, w.heap.size = B := ⟨_, rfl⟩
  obtain ⟨W1, hW1⟩ : ∃ W1, (w.alloc (.deferred (some []))).alloc (.loop (rc .ready none)) = W1 := ⟨_, rfl⟩
  have rec1 : W1.heap[B + 1]? = some (.loop (rc .ready none)) := by
    have := World.alloc_heap_new (w.alloc (.deferred (some []))) (.loop (rc .ready none))
    rwa [World.size_alloc, hW1, hB] at this
  have def1 : W1.heap[B]? = some (.deferred (some [])) := by
    rw [← hW1, ← hB]; exact (Below.heap_alloc _ _ _ (by simp)).trans (World.alloc_heap_new w _)
  have inv1 : I 0 W1 := by rw [← hW1]; exact hI.alloc _ (hI.alloc _ h0)
  have bel1 : Below w.heap.size w W1 := by rw [← hW1]; exact ((Below.refl _ w).alloc (Nat.le_refl _) _).alloc (by simp) _
  have enter1 : (Instr.enterLoop fn a.tmps ps assign body none).run P w = .ok (B + 1, [{ target := .collected B, args := #[] }]) W1 := by
    rw [← hW1, hrc, ← hB]; exact run_enterLoop_outer _ _ _ _ _
  rw [hB] at hI hIx hU
  refine ⟨B + 1, [{ target := .collected B, args := #[] }], W1, { target := .fn (.func gf) lb, args := #[.func (.yield (B + 1)) #[] #[]] }, W1, gf, #[.func (.yield (B + 1)) #[] #[]] ++ lb, W1, enter1, ?_, ?_, ?_, fun _ => h1, ?_⟩
  · simp only [resolve, hg]
    simp [go_sem]
  · intro f' hf'; simp [Target.leads] at hf'; subst hf'; exact hFg
  · simp [invoke, go_sem, eg]
  · refine (hseq (B + 1) (fun j W => I j W ∧ W.heap[B + 1]? = some (.loop (rc .ready none)) ∧ W.heap[B]? = some (.deferred (some [])))
      (fun W => Ix W ∧ W.heap[B + 1]? = some (.loop (rc .done (some .ret))) ∧ W.heap[B]? = some (.deferred (some [])))
      W1 bel1
      (fun j A C h k => ⟨hI j A C none h.1 (grows k) (fun r e => by cases e), (k.block _ (Array.getElem?_eq_some_iff.1 h.2.1).1).trans h.2.1, (k.block _ (Array.getElem?_eq_some_iff.1 h.2.2).1).trans h.2.2⟩)
      (fun A C h k => ⟨hIx () A C none h.1 (grows k) (fun r e => by cases e), (k.block _ (Array.getElem?_eq_some_iff.1 h.2.1).1).trans h.2.1, (k.block _ (Array.getElem?_eq_some_iff.1 h.2.2).1).trans h.2.2⟩)
      ?_ ⟨inv1, rec1, def1⟩).mono ?_
    · rintro j v W hj ⟨hi, hl, hk⟩ hu
      have hlt : B + 1 < W.heap.size := (Array.getElem?_eq_some_iff.1 hl).1
      have hy := run_yield (P := P) (args := #[v]) hl (by rw [hrc]; exact hps.symm)
      rw [hrc] at hy
      refine ⟨fn, _, assign, body, hy, roundIn_of_wpIn hfn (hassign _ v W _ ⟨_, run_beginRound hl (by rw [hrc]), ?_⟩)⟩
      obtain ⟨W2, hW2⟩ : ∃ W2, W.putObj (B + 1) (.loop { rc .ready none with state := .busy }) = W2 := ⟨_, rfl⟩
      have rec2 : W2.heap[B + 1]? = some (.loop { rc .ready none with state := .busy }) := by rw [← hW2]; exact World.putObj_heap_same hlt
      have def2 : W2.heap[B]? = some (.deferred (some [])) := by rw [← hW2]; exact (World.putObj_heap_other (by omega)).trans hk
      have inv2 : I j W2 := by rw [← hW2]; exact hI.putObj _ hi (by omega) hl rfl
      have u2 : U j v W2 := by rw [← hW2]; exact (hU j v).putObj (s := ()) _ hu (by omega) hl rfl
      have bel2 : Below B W W2 := by rw [← hW2]; exact below_put _ _ (by omega) hl
      rw [hW2]
      have size2 : w.heap.size ≤ W2.heap.size := by rw [hB]; have := (Array.getElem?_eq_some_iff.1 rec2).1; omega
      refine wpIn_mono (hbody _ j v W2 hj inv2 u2 size2) ?_
      rw [hB]
      rintro e a3 W3 hp
      cases e with
      | normal =>
        obtain ⟨hs, hb3, hi3⟩ := hp
        have rec3 := hs.obj (Nat.le_succ B) rec2
        have def3 := hs.obj (Nat.le_refl B) def2
        have hend := run_endRound (P := P) none rec3
        rw [hrc] at hend rec3
        refine ⟨_, _, hend, .inl ⟨rfl, ⟨hI.putObj _ hi3 (by omega) rec3 rfl, ?_, (World.putObj_heap_other (by omega)).trans def3⟩, (bel2.trans hb3).trans (below_put _ _ (by omega) rec3)⟩⟩
        rw [hrc]
        exact World.putObj_heap_same (Array.getElem?_eq_some_iff.1 rec3).1
      | ret =>
        obtain ⟨hs, hi3⟩ := hp
        have rec3 := hs.obj (Nat.le_succ B) rec2
        have def3 := hs.obj (Nat.le_refl B) def2
        have hend := run_endRound (P := P) (some .ret) rec3
        rw [hrc] at hend rec3
        refine ⟨_, _, hend, .inr ⟨rfl, hIx.putObj (s := ()) _ hi3 (by omega) rec3 rfl, ?_, (World.putObj_heap_other (by omega)).trans def3⟩⟩
        rw [hrc]
        exact World.putObj_heap_same (Array.getElem?_eq_some_iff.1 rec3).1
      | exit id => exact hp.elim
      | goto t => exact hp.elim
      | panic ch => exact hp.elim
      | outgrown => exact hp.elim
    · rintro e W2 ⟨⟨v, rfl⟩, (⟨hi, hl, hk⟩ | ⟨hi, hl, hk⟩)⟩
      · have hend := run_endLoop (P := P) hl (by rw [hrc]; simp)
        rw [hrc] at hend hl
        exact ⟨none, _, hend, hdone B _ (Nat.le_of_eq hB) (hI.putObj _ hi (by omega) hl rfl) ((World.putObj_heap_other (by omega)).trans hk)⟩
      · have hend := run_endLoop (P := P) hl (by rw [hrc]; simp)
        rw [hrc] at hend hl
        exact ⟨some .ret, _, hend, hstop B _ (Nat.le_of_eq hB) (hIx.putObj (s := ()) _ hi (by omega) hl rfl) ((World.putObj_heap_other (by omega)).trans hk)⟩
end Go.Proofs.YtllfgdcplbfdhaaGreat

namespace Go.Proofs.YtllfgdcplbfdhaaGreat
open Go.RowKit
set_option linter.unusedVariables false
set_option linter.unusedSimpArgs false
/-- Two neighboring numbers of Fibonacci. -/
def fibP : Nat → Int × Int
  | 0 => (0, 1)
  | k + 1 => ((fibP k).2, (fibP k).1 + (fibP k).2)
def fibN (n : Nat) : Int := (fibP n).1
theorem fibP_le : ∀ k : Fin 9, 0 ≤ (fibP k.val).1 ∧ (fibP k.val).1 ≤ 34 ∧ 0 ≤ (fibP k.val).2 ∧ (fibP k.val).2 ≤ 34 := by decide
theorem fib_le {k : Nat} (h : k ≤ 8) : 0 ≤ (fibP k).1 ∧ (fibP k).1 ≤ 34 ∧ 0 ≤ (fibP k).2 ∧ (fibP k).2 ≤ 34 := fibP_le ⟨k, by omega⟩
/-- The weight at x of the column or row p. -/
def nearW (x p : Nat) : Int := fibN (7 - max (x - p) (p - x))
/-- A list over a grid of N places in rows of a: for each index a number of its column and row. -/
def gridL (a N : Nat) (f : Nat → Nat → Int) : List Int := (List.range N).map fun k => f (k % a) (k / a)
theorem gridL_len (a N : Nat) (f : Nat → Nat → Int) : (gridL a N f).length = N := by simp [gridL]
theorem gridL_get {a N k : Nat} (f : Nat → Nat → Int) (hk : k < N) : (gridL a N f)[k]? = some (f (k % a) (k / a)) := by simp [gridL, hk]
def clsW (r x y : Nat) : Int := if (x + y) % 3 = r then 0 else 1
def colW (p x y : Nat) : Int := nearW x p
def rowW (p x y : Nat) : Int := nearW y p
/-- The list over the grid of a valid board by a number from 0 to m; else none. -/
def overL (W H Z R : Int) (m : Nat) (f : Nat → Nat → Nat → Int) : List Int := if okB W H Z && inB R 0 m then gridL W.toNat (W * H).toNat (f R.toNat) else []
theorem overL_no1 {W H Z R : Int} {m : Nat} {f : Nat → Nat → Nat → Int} (h : okB W H Z = false) : overL W H Z R m f = [] := by simp [overL, h]
theorem overL_no2 {W H Z R : Int} {m : Nat} {f : Nat → Nat → Nat → Int} (h : inB R 0 m = false) : overL W H Z R m f = [] := by simp [overL, h]
theorem overL_yes {a b N z r m : Nat} {f : Nat → Nat → Nat → Int} (h : Ok (a : Int) (b : Int) N z) (hr : r ≤ m) : overL a b z r m f = gridL a N (f r) := by
  have h1 : inB (r : Int) 0 m = true := by simp [inB]; omega
  have h2 := h.wh
  simp [overL, h.ok, h1, h2]
theorem overL_le (W H Z R : Int) (m : Nat) (f : Nat → Nat → Nat → Int) : (overL W H Z R m f).length ≤ 49 := by
  unfold overL
  cases h : okB W H Z
  · simp
  · obtain ⟨N, z, rfl, ho⟩ := ok_of h
    have h1 := ho.wh
    have h2 := ho.n49
    rw [h1]
    split
    · rw [gridL_len]; simpa using h2
    · simp
/-- The list at place j among those that are tried. -/
def tryL (W H Z : Int) (j : Nat) : List Int :=
  if j < 3 then overL W H Z j 2 clsW else if j < 10 then overL W H Z ((j - 3 : Nat) : Int) 6 colW else overL W H Z ((j - 10 : Nat) : Int) 6 rowW
theorem tryL_cls {W H Z : Int} {j : Nat} (h : j < 3) : tryL W H Z j = overL W H Z j 2 clsW := by simp [tryL, h]
theorem tryL_col {W H Z : Int} {j : Nat} (h : j < 7) : tryL W H Z (j + 3) = overL W H Z j 6 colW := by
  unfold tryL
  rw [if_neg (by omega), if_pos (by omega), show j + 3 - 3 = j by omega]
theorem tryL_row {W H Z : Int} {j : Nat} (h : j < 7) : tryL W H Z (j + 10) = overL W H Z j 6 rowW := by
  unfold tryL
  rw [if_neg (by omega), if_neg (by omega), show j + 10 - 10 = j by omega]
theorem tryL_le (W H Z : Int) (j : Nat) : (tryL W H Z j).length ≤ 49 := by
  unfold tryL
  split
  · exact overL_le ..
  · split <;> exact overL_le ..
/-- Weights that show that no game leads from P to G. -/
def proofB (W H Z : Int) (xs : List Int) (P G : Int) : Bool := fallB W H Z xs && posB W H Z P && posB W H Z G && decide (sumB W H Z xs P < sumB W H Z xs G)
/-- The first list that proves it, and true; else none, and false. -/
def findB (W H Z P G : Int) : List Int × Bool :=
  match (List.range 17).find? (fun j => proofB W H Z (tryL W H Z j) P G) with
  | some j => (tryL W H Z j, true)
  | none => ([], false)
theorem first_upto {n j : Nat} {f : Nat → Bool} (hj : j < n) (h : ∀ i, i < j → f i = false) (ht : f j = true) : (List.range n).find? f = some j := by
  rw [List.find?_eq_some_iff_getElem]
  refine ⟨ht, j, by simpa using hj, by simp, fun i hi => ?_⟩
  simp [h i hi]
theorem first_not {n : Nat} {f : Nat → Bool} (h : ∀ i, i < n → f i = false) : (List.range n).find? f = none := by
  rw [List.find?_eq_none]
  intro i hi
  simp [h i (List.mem_range.1 hi)]
theorem first_at {W H Z P G : Int} {j : Nat} (hj : j < 17) (h : ∀ i, i < j → proofB W H Z (tryL W H Z i) P G = false) (ht : proofB W H Z (tryL W H Z j) P G = true) : findB W H Z P G = (tryL W H Z j, true) := by
  unfold findB
  rw [first_upto hj h ht]
theorem first_no {W H Z P G : Int} (h : ∀ i, i < 17 → proofB W H Z (tryL W H Z i) P G = false) : findB W H Z P G = ([], false) := by
  unfold findB
  rw [first_not h]
theorem first_le (W H Z P G : Int) : (findB W H Z P G).1.length ≤ 49 := by
  unfold findB
  split
  · exact tryL_le ..
  · simp
end Go.Proofs.YtllfgdcplbfdhaaGreat

namespace Go.Proofs.YtllfgdcplbfdhaaGreat
open Go.RowKit
set_option linter.unusedVariables false
set_option linter.unusedSimpArgs false
set_option maxHeartbeats 1000000 in
set_option maxRecDepth 100000 in
theorem implFib (n : Nat) (hn : n ≤ 7) (w : World) : Calls Tryz.prog 90 #[.int .i64 n] w fun e w' => e = .returned (.int .i64 (fibN n)) ∧ w = w' := by
  go_enter Tryz.func90, Tryz.ntmps90
  go_wp2_with fail
  go_loopw [3, 4, 6] (fun x y i wr => ∃ k : Nat, k ≤ n ∧ i = .int .i64 k ∧ x = .int .i64 (fibP k).1 ∧ y = .int .i64 (fibP k).2 ∧ wr = w) (fun _ _ i _ => n - (intOf i).toNat)
  case atStart => exact ⟨0, Nat.zero_le _, rfl, rfl, rfl, rfl⟩
  case round =>
    obtain ⟨k, hk, rfl, rfl, rfl, rfl⟩ := hrel
    by_cases hlt : k < n
    · have h0 : (0 : Int) ≤ (k : Int) := by omega
      have h1 : (k : Int) < (n : Int) := by omega
      obtain ⟨f1, f2, f3, f4⟩ := fib_le (show k ≤ 8 by omega)
      have HE : Hid ((fibP (k + 1)).1 = (fibP k).2 ∧ (fibP (k + 1)).2 = (fibP k).1 + (fibP k).2) := ⟨rfl, rfl⟩
      generalize (fibP k).1 = x at *
      generalize (fibP k).2 = y at *
      go_wp2_with fail
      go_roundw
      case rel => exact ⟨k + 1, by omega, by go_num, by rw [HE.out.1], by rw [HE.out.2], trivial⟩
      case measure => simp [intOf]; omega
    · obtain rfl : k = n := by omega
      go_wp2_with fail
      go_ret
      exact ⟨rfl, rfl⟩
set_option maxHeartbeats 1000000 in
set_option maxRecDepth 100000 in
theorem implNear (x p : Nat) (hx : x < 7) (hp : p < 7) (w : World) : Calls Tryz.prog 52 #[.int .i64 x, .int .i64 p] w fun e w' => e = .returned (.int .i64 (nearW x p)) ∧ w = w' := by
  obtain ⟨d, hd⟩ : ∃ d : Nat, 7 - max (x - p) (p - x) = d := ⟨_, rfl⟩
  have hd7 : d ≤ 7 := by omega
  have C1 := Lib.hid (fun w => implFib d hd7 w)
  have C2 := Lib.hid (fun w => implMagn ((x : Int) - (p : Int)) (by omega) w)
  have HE : Hid (nearW x p = fibN d) := by unfold Hid nearW; rw [hd]
  rw [HE.out]
  obtain ⟨m, hm⟩ : ∃ m : Nat, ((x : Int) - (p : Int)).natAbs = m := ⟨_, rfl⟩
  rw [hm] at C2
  have e5 : (7 : Int) - (m : Int) = d := by omega
  have m0 : (m : Int) ≤ 7 := by omega
  clear hd HE hm
  go_enter Tryz.func52, Tryz.ntmps52
  go_wp2_with fail
  refine (C2.out _).mono ?_
  rintro e w1 ⟨rfl, rfl⟩
  go_wp2_with fail
  refine (C1.out _).mono ?_
  rintro e w2 ⟨rfl, rfl⟩
  go_wp2_with fail
  go_ret
  exact ⟨rfl, rfl⟩
/-- A number in a block of its own. -/
def BoxI (g : Nat) (R : Int) (w : World) : Prop := w.cell? ⟨g, 0, none⟩ = some (.int .i64 R) ∧ g < w.heap.size
theorem BoxI.later {g : Nat} {R : Int} {w w' : World} (h : BoxI g R w) (hb : Below w.heap.size w w') : BoxI g R w' := ⟨(hb.cell h.2).trans h.1, Nat.lt_of_lt_of_le h.2 hb.size⟩
set_option maxHeartbeats 1000000 in
set_option maxRecDepth 100000 in
theorem implCls (x y r g : Nat) (hx : x < 7) (hy : y < 7) (hr : r < 3) (w : World) (hb : BoxI g r w) : Calls Tryz.prog 49 #[.int .i64 x, .int .i64 y, .pointer (some ⟨g, 0, none⟩)] w fun e w' => e = .returned (.int .i64 (clsW r x y)) ∧ w = w' := by
  obtain ⟨c0, -⟩ := hb
  have hs : (x : Int) + y = ((x + y : Nat) : Int) := by omega
  have hm : ((x + y : Nat) : Int).tmod 3 = (((x + y) % 3 : Nat) : Int) := by rw [Int.tmod_eq_emod_of_nonneg (by omega)]; omega
  have hb2 : x + y < 14 := by omega
  have hE : Hid (clsW r x y = if (x + y) % 3 = r then 0 else 1) := rfl
  rw [hE.out]
  have hq : (x + y) % 3 < 3 := Nat.mod_lt _ (by decide)
  generalize (x + y) % 3 = q at *
  generalize x + y = s at *
  by_cases h : q = r
  · subst h
    rw [if_pos rfl]
    clear hE
    go_enter Tryz.func49, Tryz.ntmps49
    go_wp2_with fail
    go_ret
    exact ⟨rfl, rfl⟩
  · rw [if_neg h]
    have h' : ¬ (q : Int) = r := by omega
    clear hE h
    go_enter Tryz.func49, Tryz.ntmps49
    go_wp2_with fail
    go_ret
    exact ⟨rfl, rfl⟩
set_option maxHeartbeats 1000000 in
set_option maxRecDepth 100000 in
theorem implCol (x y p g : Nat) (hx : x < 7) (hp : p < 7) (w : World) (hb : BoxI g p w) : Calls Tryz.prog 51 #[.int .i64 x, .int .i64 y, .pointer (some ⟨g, 0, none⟩)] w fun e w' => e = .returned (.int .i64 (colW p x y)) ∧ w = w' := by
  obtain ⟨c0, -⟩ := hb
  have C1 := Lib.hid (fun w => implNear x p hx hp w)
  unfold colW
  go_enter Tryz.func51, Tryz.ntmps51
  go_wp2_with fail
  refine (C1.out _).mono ?_
  rintro e w1 ⟨rfl, rfl⟩
  go_wp2_with fail
  go_ret
  exact ⟨rfl, rfl⟩
set_option maxHeartbeats 1000000 in
set_option maxRecDepth 100000 in
theorem implRow (x y p g : Nat) (hy : y < 7) (hp : p < 7) (w : World) (hb : BoxI g p w) : Calls Tryz.prog 53 #[.int .i64 x, .int .i64 y, .pointer (some ⟨g, 0, none⟩)] w fun e w' => e = .returned (.int .i64 (rowW p x y)) ∧ w = w' := by
  obtain ⟨c0, -⟩ := hb
  have C1 := Lib.hid (fun w => implNear y p hy hp w)
  unfold rowW
  go_enter Tryz.func53, Tryz.ntmps53
  go_wp2_with fail
  refine (C1.out _).mono ?_
  rintro e w1 ⟨rfl, rfl⟩
  go_wp2_with fail
  go_ret
  exact ⟨rfl, rfl⟩
/-- What is asked of a rule: at each column and row it returns the number, and turns nothing. -/
def RuleAt (c g : Nat) (f : Nat → Nat → Int) (w : World) : Prop := ∀ (x y : Nat) (w' : World), x < 7 → y < 7 → Below w.heap.size w w' → Calls Tryz.prog c #[.int .i64 x, .int .i64 y, .pointer (some ⟨g, 0, none⟩)] w' fun e w'' => e = .returned (.int .i64 (f x y)) ∧ w' = w''
set_option maxHeartbeats 2000000 in
set_option maxRecDepth 100000 in
theorem implBy {a b N z : Nat} (ho : Ok (a : Int) (b : Int) N z) (c g : Nat) (f : Nat → Nat → Int) (w : World) (hc : c = 49 ∨ c = 51 ∨ c = 53) (hr : RuleAt c g f w) :
    Calls Tryz.prog 48 #[.agg #[.int .i64 a, .int .i64 b, .int .i64 z], .func (.func c) #[] #[.pointer (some ⟨g, 0, none⟩)]] w (OwnIv (gridL a N f) w) := by
  obtain ⟨i0, hi, hz0, hz1, hz2⟩ : ∃ i, Tryz.prog.info? 3 = some i ∧ i.zero = some (.int .i64 0) ∧ i.size = 1 ∧ i.bytes = 8 := ⟨_, by rfl, by rfl, by rfl, by rfl⟩
  obtain ⟨hN, ha0, ha7, hb0, hb7, h49⟩ := ho.nat
  rw [hN] at h49
  have C1 := Lib.hid (fun w => implSize (a : Int) (b : Int) z w N ho.wh ho.n49)
  have C2 := Lib.hid (fun k w (hk : k < N) => implPlaceN ho (k := k) (by rw [hN]; exact hk) w)
  have CR := Lib.hid hr
  have HG := Lib.hid (fun k (hk : k < N) => gridL_get (a := a) f hk)
  have HL : Hid ((gridL a N f).length = N) := gridL_len a N f
  have HX : Hid (∀ k, k < N → k % a < 7 ∧ k / a < 7) := fun k hk => ⟨by have := Nat.mod_lt k ha0; omega, by
    have : k / a < b := by rw [Nat.div_lt_iff_lt_mul ha0, Nat.mul_comm, hN]; exact hk
    omega⟩
  generalize gridL a N f = xs at *
  clear hr hN ho
  go_enter Tryz.func48, Tryz.ntmps48
  go_wp2_with fail
  have B0 := Lib.hid (box_new a b z w)
  generalize w.alloc (.cells #[.int .i64 a, .int .i64 b, .int .i64 (z : Int)] 25) = W1 at *
  obtain ⟨c0, c1, c2, hlt, hb1⟩ := B0.out
  go_wp2_with fail
  refine (C1.out _).mono ?_
  rintro e w1 ⟨rfl, hb⟩
  have B1 := Lib.hid (B0.out.later hb)
  clear c0 c1 c2 hlt hb1 hb B0 C1
  obtain ⟨w3, hmk, hrow, hg3⟩ := run_make_full (P := Tryz.prog) w1 w1.heap.size 30 3 i0 (.int .i64 0) 1 Tryz.underlying30 hi hz0 hz1 .i64 .i64 N (by rw [hz2]; omega) (by unfold maxLen; omega) (Nat.le_refl _)
  have HB3 : Hid (Below w1.heap.size w1 w3) := ⟨hg3.os, hg3.tape, hg3.output, hg3.size, fun j hj => hg3.block j hj (by simp)⟩
  obtain ⟨L, hL⟩ : ∃ L, (madeCells (Value.int .i64 0).cells (N * 1)).toList = L := ⟨_, rfl⟩
  have HLL : Hid (L.length = N) := by unfold Hid; rw [← hL]; simp [madeCells]
  rw [hL] at hrow
  have HR := Lib.hid hrow
  clear hrow hg3 hL
  obtain ⟨c0', c1', c2', hlt, hb1⟩ := B1.out
  obtain ⟨q, hq⟩ : ∃ q, w1.heap.size = q := ⟨_, rfl⟩
  rw [hq] at hmk HB3 HR hlt
  have HQ := Lib.hid hq
  have HC0 := Lib.hid c0'
  have HC1 := Lib.hid c1'
  have HC2 := Lib.hid c2'
  have HBW := Lib.hid hb1
  clear hq c0' c1' c2' hb1
  go_wp2_with fail
  clear hmk
  go_loopw [12] (fun i wr => ∃ k : Nat, k ≤ N ∧ i = .int .i64 k ∧ Hid (wr.ownsRow q 3 1 (.slice (some ⟨q, 0, none⟩) N N) N (iv (xs.take k) ++ L.drop k)) ∧ Hid (Below q w1 wr)) (fun i _ => N - (intOf i).toNat)
  case atStart => exact ⟨0, Nat.zero_le _, rfl, HR, HB3⟩
  case round =>
    clear HR HB3
    obtain ⟨k, hk, rfl, HO, HW⟩ := hrel
    by_cases hlk : k < N
    · have h0 : (0 : Int) ≤ (k : Int) := by omega
      have h1 : (k : Int) < (N : Int) := by omega
      have c0 := (HW.out.cell hlt).trans HC0.out
      have c1 := (HW.out.cell hlt).trans HC1.out
      have c2 := (HW.out.cell hlt).trans HC2.out
      have CK := Lib.hid (fun w => C2.out k w hlk)
      have hqs : q ≤ wr.heap.size := by rw [← HQ.out]; exact HW.out.size
      go_wp2_with fail
      refine (CK.out _).mono ?_
      rintro e w5 ⟨rfl, hb5⟩
      have HO5 := Lib.hid (own_below HO.out hb5)
      have HW5 := Lib.hid (HW.out.trans (hb5.mono hqs))
      obtain ⟨x7, y7⟩ := HX.out k hlk
      have hx := HG.out k hlk
      have CF := Lib.hid (CR.out (k % a) (k / a) w5 x7 y7 (HBW.out.trans (HW5.out.mono (by rw [← HQ.out]; exact HBW.out.size))))
      generalize f (k % a) (k / a) = v at *
      generalize k % a = x at *
      generalize k / a = y at *
      have HS := Lib.hid (take_one hx)
      have HT : Hid ((xs.take k).length = k) := by unfold Hid; rw [List.length_take, HL.out]; omega
      have f0 := HO5.out.frozenAt k
      obtain ⟨v0, d0⟩ : ∃ v, w5.cell? ⟨q, k, none⟩ = some v := by
        rw [HO5.out.cellAt k (by omega)]
        exact ⟨_, List.getElem?_eq_getElem (by have := HO5.out.1; omega)⟩
      have hst := HO5.out.stored k (.int .i64 v)
      have hpl := iput L (xs.take k) v HT.out HLL.out hlk
      rw [hpl, ← HS.out] at hst
      have hqs5 : q ≤ w5.heap.size := by rw [← HQ.out]; exact HW5.out.size
      have HST := Lib.hid hst.1
      have HWT := Lib.hid (HW5.out.grown hst.2 hqs5 (fun j hj => by cases hj; exact Nat.le_refl _))
      clear hx hst hpl HO HW hqs hqs5 hb5 c0 c1 c2 CK HO5 HW5 HS HT
      rcases hc with rfl | rfl | rfl
      all_goals
        go_wp2_with fail
        refine CF.out.mono ?_
        rintro e w6 ⟨rfl, rfl⟩
        clear CF
        go_wp2_with fail
        go_roundw
        case rel => exact ⟨k + 1, by omega, by go_num, HST, HWT⟩
        case measure => simp [intOf]; omega
    · obtain rfl : k = N := by omega
      have hp : Hid (OwnIv xs w (.returned (.slice (some ⟨q, 0, none⟩) k k)) wr) := by
        refine ⟨_, rfl, ?_, ?_⟩
        · have := HO.out
          rw [List.drop_of_length_le (by rw [HLL.out]; exact Nat.le_refl _), List.append_nil, List.take_of_length_le (by rw [HL.out]; exact Nat.le_refl _)] at this
          rw [HL.out]; exact own_base this (by rw [← HQ.out]; exact HBW.out.size)
        · exact HBW.out.trans (HW.out.mono (by rw [← HQ.out]; exact HBW.out.size))
      clear HO HW
      go_wp2_with fail
      go_ret
      exact hp.out
end Go.Proofs.YtllfgdcplbfdhaaGreat

namespace Go.Proofs.YtllfgdcplbfdhaaGreat
open Go.RowKit
set_option linter.unusedVariables false
set_option linter.unusedSimpArgs false
/-- A board's box and behind it that of a number. -/
def BxR (W H Z R : Int) (w0 w : World) : Prop := Box w0.heap.size W H Z w0 w ∧ BoxI (w0.heap.size + 1) R w
theorem bxr_new (W H Z R : Int) (T T' : TypeId) (w : World) : BxR W H Z R w ((w.alloc (.cells #[.int .i64 W, .int .i64 H, .int .i64 Z] T)).alloc (.cells #[.int .i64 R] T')) := by
  have h1 := (box_newT T W H Z w).later ((Below.refl _ _).alloc (Nat.le_refl _) (.cells #[.int .i64 R] T'))
  refine ⟨h1, ?_, by simp⟩
  have h2 := heap_alloc_new (w.alloc (.cells #[.int .i64 W, .int .i64 H, .int .i64 Z] T)) (.cells #[.int .i64 R] T')
  rw [World.size_alloc] at h2
  rw [cell_of_row _ _ _ _ _ _ h2]
  rfl
theorem BxR.later {W H Z R : Int} {w0 w w' : World} (h : BxR W H Z R w0 w) (hb : Below w.heap.size w w') : BxR W H Z R w0 w' := ⟨h.1.later hb, h.2.later hb⟩
/-- The number is in its range. -/
theorem in_nat {R : Int} {m : Nat} (h : inB R 0 m = true) : ∃ r : Nat, R = r ∧ r ≤ m := by
  simp only [inB, Bool.and_eq_true, decide_eq_true_eq] at h
  obtain ⟨r, rfl⟩ := Int.eq_ofNat_of_zero_le h.1
  exact ⟨r, rfl, by omega⟩
theorem in_not {R : Int} {m : Nat} (h : inB R 0 m = false) : R < 0 ∨ (m : Int) < R := by
  have : ¬ (0 ≤ R ∧ R ≤ m) := fun hh => by simp [inB, hh] at h
  omega
set_option maxRecDepth 100000 in
theorem implPlaceOk (n : Int) (w : World) : Calls Tryz.prog 50 #[.int .i64 n] w fun e w' => e = .returned (.bool (inB n 0 6)) ∧ w = w' := by
  by_cases h1 : 0 ≤ n <;> by_cases h2 : n ≤ 6
  all_goals
    go_enter Tryz.func50, Tryz.ntmps50
    go_wp2
    go_ret
    refine ⟨ret_bool ?_, rfl⟩
    simp [inB, h1, h2] <;> omega
set_option maxHeartbeats 1000000 in
set_option maxRecDepth 100000 in
theorem implClassW (W H Z R : Int) (w : World) : Calls Tryz.prog 13 #[.agg #[.int .i64 W, .int .i64 H, .int .i64 Z], .int .i64 R] w (OwnIv (overL W H Z R 2 clsW) w) := by
  cases hok : okB W H Z
  · rw [overL_no1 hok]
    have C1 := Lib.hid (implOk_no hok)
    clear hok
    go_enter Tryz.func13, Tryz.ntmps13
    go_wp2_with fail
    have B0 := Lib.hid (bxr_new W H Z R 25 3 w)
    generalize (w.alloc (.cells #[.int .i64 W, .int .i64 H, .int .i64 Z] 25)).alloc (.cells #[.int .i64 R] 3) = W1 at *
    obtain ⟨⟨c0, c1, c2, hlt, hb1⟩, d0, -⟩ := B0.out
    go_wp2_with fail
    refine (C1.out _).mono ?_
    rintro e w1 ⟨rfl, hb⟩
    have B1 := Lib.hid (B0.out.later hb)
    clear c0 c1 c2 d0 hlt hb1 hb B0
    go_wp2_with fail
    go_ret
    exact ⟨_, rfl, World.ownsRow_nil _ _ _ _, B1.out.1.2.2.2.2⟩
  · obtain ⟨N, z, rfl, ho⟩ := ok_of hok
    have C1 := Lib.hid (implOk_yes ho)
    cases hin : inB R 0 (2 : Nat)
    · rw [overL_no2 hin]
      clear hok ho
      go_enter Tryz.func13, Tryz.ntmps13
      go_wp2_with fail
      have B0 := Lib.hid (bxr_new W H z R 25 3 w)
      generalize (w.alloc (.cells #[.int .i64 W, .int .i64 H, .int .i64 (z : Int)] 25)).alloc (.cells #[.int .i64 R] 3) = W1 at *
      obtain ⟨⟨c0, c1, c2, hlt, hb1⟩, d0, -⟩ := B0.out
      go_wp2_with fail
      refine (C1.out _).mono ?_
      rintro e w1 ⟨rfl, hb⟩
      have B1 := Lib.hid (B0.out.later hb)
      clear c0 c1 c2 d0 hlt hb1 hb B0
      obtain ⟨⟨c0, c1, c2, hlt, hb1⟩, d0, -⟩ := B1.out
      rcases in_not hin with h | h
      · clear hin
        go_wp2_with fail
        go_ret
        exact ⟨_, rfl, World.ownsRow_nil _ _ _ _, B1.out.1.2.2.2.2⟩
      · have h0 : ¬ R < 0 := by omega
        have h1 : ¬ R < 3 := by omega
        clear hin h
        go_wp2_with fail
        go_ret
        exact ⟨_, rfl, World.ownsRow_nil _ _ _ _, B1.out.1.2.2.2.2⟩
    · obtain ⟨a, rfl⟩ := Int.eq_ofNat_of_zero_le (show 0 ≤ W by have := ho.w1; omega)
      obtain ⟨b, rfl⟩ := Int.eq_ofNat_of_zero_le (show 0 ≤ H by have := ho.h1; omega)
      obtain ⟨r, rfl, hr⟩ := in_nat hin
      rw [overL_yes ho hr]
      have CB := Lib.hid (fun (g : Nat) (w : World) (hg : BoxI g r w) => implBy ho _ g (clsW r) w (.inl rfl) (fun x y w' hx hy hb => implCls x y r g hx hy (by omega) w' (hg.later hb)))
      have HE : Hid ((gridL a N (clsW r)).length = N) := gridL_len ..
      generalize gridL a N (clsW r) = xs at *
      have h0 : ¬ (r : Int) < 0 := by omega
      have h1 : (r : Int) < 3 := by omega
      clear hok ho hin hr
      go_enter Tryz.func13, Tryz.ntmps13
      go_wp2_with fail
      have B0 := Lib.hid (bxr_new a b z r 25 3 w)
      generalize (w.alloc (.cells #[.int .i64 a, .int .i64 b, .int .i64 (z : Int)] 25)).alloc (.cells #[.int .i64 (r : Int)] 3) = W1 at *
      obtain ⟨⟨c0, c1, c2, hlt, hb1⟩, d0, -⟩ := B0.out
      go_wp2_with fail
      refine (C1.out _).mono ?_
      rintro e w1 ⟨rfl, hb⟩
      have B1 := Lib.hid (B0.out.later hb)
      clear c0 c1 c2 d0 hlt hb1 hb B0
      obtain ⟨⟨c0, c1, c2, hlt, hb1⟩, d0, -⟩ := B1.out
      go_wp2_with fail
      refine (CB.out _ _ B1.out.2).mono ?_
      rintro e w2 ⟨v, rfl, hown, hb⟩
      have hp : Hid (OwnIv xs w (.returned v) w2) := ⟨v, rfl, own_base hown hb1.size, (B1.out.later hb).1.2.2.2.2⟩
      clear hown hb c0 c1 c2 d0 hlt hb1 B1
      go_wp2_with fail
      go_ret
      exact hp.out
set_option maxHeartbeats 1000000 in
set_option maxRecDepth 100000 in
theorem implColumnW (W H Z R : Int) (w : World) : Calls Tryz.prog 15 #[.agg #[.int .i64 W, .int .i64 H, .int .i64 Z], .int .i64 R] w (OwnIv (overL W H Z R 6 colW) w) := by
  cases hok : okB W H Z
  · rw [overL_no1 hok]
    have C1 := Lib.hid (implOk_no hok)
    clear hok
    go_enter Tryz.func15, Tryz.ntmps15
    go_wp2_with fail
    have B0 := Lib.hid (bxr_new W H Z R 25 3 w)
    generalize (w.alloc (.cells #[.int .i64 W, .int .i64 H, .int .i64 Z] 25)).alloc (.cells #[.int .i64 R] 3) = W1 at *
    obtain ⟨⟨c0, c1, c2, hlt, hb1⟩, d0, -⟩ := B0.out
    go_wp2_with fail
    refine (C1.out _).mono ?_
    rintro e w1 ⟨rfl, hb⟩
    have B1 := Lib.hid (B0.out.later hb)
    clear c0 c1 c2 d0 hlt hb1 hb B0
    go_wp2_with fail
    go_ret
    exact ⟨_, rfl, World.ownsRow_nil _ _ _ _, B1.out.1.2.2.2.2⟩
  · obtain ⟨N, z, rfl, ho⟩ := ok_of hok
    have C1 := Lib.hid (implOk_yes ho)
    have C2 := Lib.hid (fun w => implPlaceOk R w)
    cases hin : inB R 0 (6 : Nat)
    · rw [overL_no2 hin]
      rw [show inB R 0 6 = false from hin] at C2
      clear hok ho hin
      go_enter Tryz.func15, Tryz.ntmps15
      go_wp2_with fail
      have B0 := Lib.hid (bxr_new W H z R 25 3 w)
      generalize (w.alloc (.cells #[.int .i64 W, .int .i64 H, .int .i64 (z : Int)] 25)).alloc (.cells #[.int .i64 R] 3) = W1 at *
      obtain ⟨⟨c0, c1, c2, hlt, hb1⟩, d0, -⟩ := B0.out
      go_wp2_with fail
      refine (C1.out _).mono ?_
      rintro e w1 ⟨rfl, hb⟩
      have B1 := Lib.hid (B0.out.later hb)
      clear c0 c1 c2 d0 hlt hb1 hb B0
      obtain ⟨⟨c0, c1, c2, hlt, hb1⟩, d0, -⟩ := B1.out
      go_wp2_with fail
      refine (C2.out _).mono ?_
      rintro e w2 ⟨rfl, rfl⟩
      go_wp2_with fail
      go_ret
      exact ⟨_, rfl, World.ownsRow_nil _ _ _ _, B1.out.1.2.2.2.2⟩
    · rw [show inB R 0 6 = true from hin] at C2
      obtain ⟨a, rfl⟩ := Int.eq_ofNat_of_zero_le (show 0 ≤ W by have := ho.w1; omega)
      obtain ⟨b, rfl⟩ := Int.eq_ofNat_of_zero_le (show 0 ≤ H by have := ho.h1; omega)
      obtain ⟨r, rfl, hr⟩ := in_nat hin
      rw [overL_yes ho hr]
      have CB := Lib.hid (fun (g : Nat) (w : World) (hg : BoxI g r w) => implBy ho _ g (colW r) w (.inr (.inl rfl)) (fun x y w' hx hy hb => implCol x y r g hx (by omega) w' (hg.later hb)))
      have HE : Hid ((gridL a N (colW r)).length = N) := gridL_len ..
      generalize gridL a N (colW r) = xs at *
      clear hok ho hin hr
      go_enter Tryz.func15, Tryz.ntmps15
      go_wp2_with fail
      have B0 := Lib.hid (bxr_new a b z r 25 3 w)
      generalize (w.alloc (.cells #[.int .i64 a, .int .i64 b, .int .i64 (z : Int)] 25)).alloc (.cells #[.int .i64 (r : Int)] 3) = W1 at *
      obtain ⟨⟨c0, c1, c2, hlt, hb1⟩, d0, -⟩ := B0.out
      go_wp2_with fail
      refine (C1.out _).mono ?_
      rintro e w1 ⟨rfl, hb⟩
      have B1 := Lib.hid (B0.out.later hb)
      clear c0 c1 c2 d0 hlt hb1 hb B0
      obtain ⟨⟨c0, c1, c2, hlt, hb1⟩, d0, -⟩ := B1.out
      go_wp2_with fail
      refine (C2.out _).mono ?_
      rintro e w2 ⟨rfl, rfl⟩
      go_wp2_with fail
      refine (CB.out _ _ B1.out.2).mono ?_
      rintro e w2 ⟨v, rfl, hown, hb⟩
      have hp : Hid (OwnIv xs w (.returned v) w2) := ⟨v, rfl, own_base hown hb1.size, (B1.out.later hb).1.2.2.2.2⟩
      clear hown hb c0 c1 c2 d0 hlt hb1 B1
      go_wp2_with fail
      go_ret
      exact hp.out
set_option maxHeartbeats 1000000 in
set_option maxRecDepth 100000 in
theorem implRowW (W H Z R : Int) (w : World) : Calls Tryz.prog 16 #[.agg #[.int .i64 W, .int .i64 H, .int .i64 Z], .int .i64 R] w (OwnIv (overL W H Z R 6 rowW) w) := by
  cases hok : okB W H Z
  · rw [overL_no1 hok]
    have C1 := Lib.hid (implOk_no hok)
    clear hok
    go_enter Tryz.func16, Tryz.ntmps16
    go_wp2_with fail
    have B0 := Lib.hid (bxr_new W H Z R 25 3 w)
    generalize (w.alloc (.cells #[.int .i64 W, .int .i64 H, .int .i64 Z] 25)).alloc (.cells #[.int .i64 R] 3) = W1 at *
    obtain ⟨⟨c0, c1, c2, hlt, hb1⟩, d0, -⟩ := B0.out
    go_wp2_with fail
    refine (C1.out _).mono ?_
    rintro e w1 ⟨rfl, hb⟩
    have B1 := Lib.hid (B0.out.later hb)
    clear c0 c1 c2 d0 hlt hb1 hb B0
    go_wp2_with fail
    go_ret
    exact ⟨_, rfl, World.ownsRow_nil _ _ _ _, B1.out.1.2.2.2.2⟩
  · obtain ⟨N, z, rfl, ho⟩ := ok_of hok
    have C1 := Lib.hid (implOk_yes ho)
    have C2 := Lib.hid (fun w => implPlaceOk R w)
    cases hin : inB R 0 (6 : Nat)
    · rw [overL_no2 hin]
      rw [show inB R 0 6 = false from hin] at C2
      clear hok ho hin
      go_enter Tryz.func16, Tryz.ntmps16
      go_wp2_with fail
      have B0 := Lib.hid (bxr_new W H z R 25 3 w)
      generalize (w.alloc (.cells #[.int .i64 W, .int .i64 H, .int .i64 (z : Int)] 25)).alloc (.cells #[.int .i64 R] 3) = W1 at *
      obtain ⟨⟨c0, c1, c2, hlt, hb1⟩, d0, -⟩ := B0.out
      go_wp2_with fail
      refine (C1.out _).mono ?_
      rintro e w1 ⟨rfl, hb⟩
      have B1 := Lib.hid (B0.out.later hb)
      clear c0 c1 c2 d0 hlt hb1 hb B0
      obtain ⟨⟨c0, c1, c2, hlt, hb1⟩, d0, -⟩ := B1.out
      go_wp2_with fail
      refine (C2.out _).mono ?_
      rintro e w2 ⟨rfl, rfl⟩
      go_wp2_with fail
      go_ret
      exact ⟨_, rfl, World.ownsRow_nil _ _ _ _, B1.out.1.2.2.2.2⟩
    · rw [show inB R 0 6 = true from hin] at C2
      obtain ⟨a, rfl⟩ := Int.eq_ofNat_of_zero_le (show 0 ≤ W by have := ho.w1; omega)
      obtain ⟨b, rfl⟩ := Int.eq_ofNat_of_zero_le (show 0 ≤ H by have := ho.h1; omega)
      obtain ⟨r, rfl, hr⟩ := in_nat hin
      rw [overL_yes ho hr]
      have CB := Lib.hid (fun (g : Nat) (w : World) (hg : BoxI g r w) => implBy ho _ g (rowW r) w (.inr (.inr rfl)) (fun x y w' hx hy hb => implRow x y r g hy (by omega) w' (hg.later hb)))
      have HE : Hid ((gridL a N (rowW r)).length = N) := gridL_len ..
      generalize gridL a N (rowW r) = xs at *
      clear hok ho hin hr
      go_enter Tryz.func16, Tryz.ntmps16
      go_wp2_with fail
      have B0 := Lib.hid (bxr_new a b z r 25 3 w)
      generalize (w.alloc (.cells #[.int .i64 a, .int .i64 b, .int .i64 (z : Int)] 25)).alloc (.cells #[.int .i64 (r : Int)] 3) = W1 at *
      obtain ⟨⟨c0, c1, c2, hlt, hb1⟩, d0, -⟩ := B0.out
      go_wp2_with fail
      refine (C1.out _).mono ?_
      rintro e w1 ⟨rfl, hb⟩
      have B1 := Lib.hid (B0.out.later hb)
      clear c0 c1 c2 d0 hlt hb1 hb B0
      obtain ⟨⟨c0, c1, c2, hlt, hb1⟩, d0, -⟩ := B1.out
      go_wp2_with fail
      refine (C2.out _).mono ?_
      rintro e w2 ⟨rfl, rfl⟩
      go_wp2_with fail
      refine (CB.out _ _ B1.out.2).mono ?_
      rintro e w2 ⟨v, rfl, hown, hb⟩
      have hp : Hid (OwnIv xs w (.returned v) w2) := ⟨v, rfl, own_base hown hb1.size, (B1.out.later hb).1.2.2.2.2⟩
      clear hown hb c0 c1 c2 d0 hlt hb1 B1
      go_wp2_with fail
      go_ret
      exact hp.out
end Go.Proofs.YtllfgdcplbfdhaaGreat

namespace Go.Proofs.YtllfgdcplbfdhaaGreat
open Go.RowKit
set_option linter.unusedVariables false
set_option linter.unusedSimpArgs false
set_option maxHeartbeats 2000000 in
set_option maxRecDepth 100000 in
theorem implProof (W H Z P G : Int) (hP : P ≤ 9223372036854775807) (hG : G ≤ 9223372036854775807) {a : Option Addr} {n c : Nat} {xs : List Int} (w : World) (hx : n ≤ 1048576) (h : IntsAt w a n xs) :
    Calls Tryz.prog 11 #[.agg #[.int .i64 W, .int .i64 H, .int .i64 Z], .slice a n c, .int .i64 P, .int .i64 G] w (QB (proofB W H Z xs P G) w) := by
  have C1 := Lib.hid (fun w (hi : IntsAt w a n xs) => implFalling W H Z (c := c) w hx hi)
  have C2 := Lib.hid (fun w => implPos W H Z P hP w)
  have C3 := Lib.hid (fun w => implPos W H Z G hG w)
  have C4 := Lib.hid (fun w (hi : IntsAt w a n xs) => implSum W H Z P hP (c := c) w hx hi)
  have C5 := Lib.hid (fun w (hi : IntsAt w a n xs) => implSum W H Z G hG (c := c) w hx hi)
  have HI := Lib.hid h
  unfold proofB
  generalize fallB W H Z xs = f at *
  generalize posB W H Z P = p at *
  generalize posB W H Z G = g at *
  generalize sumB W H Z xs P = s at *
  generalize sumB W H Z xs G = t at *
  clear h hx hP hG
  cases f
  · go_enter Tryz.func11, Tryz.ntmps11
    go_wp2_with fail
    have B0 := Lib.hid (box_new W H Z w)
    generalize w.alloc (.cells #[.int .i64 W, .int .i64 H, .int .i64 Z] 25) = W1 at *
    refine wp_region_script (by kernel_rfl) (by kernel_rfl) ?_
    refine Script.load (i := 0) (v := ?_) rfl (by kernel_rfl) (by kernel_rfl) (fun _ _ _ h => h) (by kernel_rfl) ?_ ?_
    rotate_left
    · (intro wS hSw; obtain ⟨c0, c1, c2, -, -⟩ := B0.out.later (After.trans (After.drew (After.refl _)) hSw); go_simp; try with_reducible rfl)
    try simp only [Act.put, List.getElem_toArray, List.getElem_cons_succ, List.getElem_cons_zero, List.setIfInBounds_toArray, List.set_cons_zero, List.set_cons_succ]
    refine Script.load (i := 1) (v := ?_) rfl (by kernel_rfl) (by kernel_rfl) (fun _ _ _ h => h) (by kernel_rfl) ?_ ?_
    rotate_left
    · (intro wS hSw; obtain ⟨c0, c1, c2, -, -⟩ := B0.out.later (After.trans (After.drew (After.refl _)) hSw); go_simp; try with_reducible rfl)
    try simp only [Act.put, List.getElem_toArray, List.getElem_cons_succ, List.getElem_cons_zero, List.setIfInBounds_toArray, List.set_cons_zero, List.set_cons_succ]
    refine Script.call (i := 2) (v := ?_) rfl (by kernel_rfl) (by kernel_rfl) (fun _ _ _ h => h) (by kernel_rfl) ?_ ?_
    rotate_left
    · (intro wS hSw K hK; obtain ⟨c0, c1, c2, -, -⟩ := B0.out.later (After.trans (After.drew (After.refl _)) hSw); go_simp; go_at_call 42; refine (C1.out _ (HI.out.later (B0.out.later (After.trans (After.drew (After.refl _)) hSw)).2.2.2.2)).mono ?_; rintro e wc ⟨rfl, hbc⟩; exact hK.out _ hbc)
    try simp only [Act.put, List.getElem_toArray, List.getElem_cons_succ, List.getElem_cons_zero, List.setIfInBounds_toArray, List.set_cons_zero, List.set_cons_succ]
    refine Script.load (i := 3) (v := ?_) rfl (by kernel_rfl) (by kernel_rfl) (fun _ _ _ h => h) (by kernel_rfl) ?_ ?_
    rotate_left
    · (intro wS hSw; obtain ⟨c0, c1, c2, -, -⟩ := B0.out.later (After.trans (After.drew (After.refl _)) hSw); go_simp; try with_reducible rfl)
    try simp only [Act.put, List.getElem_toArray, List.getElem_cons_succ, List.getElem_cons_zero, List.setIfInBounds_toArray, List.set_cons_zero, List.set_cons_succ]
    refine Script.skip (i := 4) rfl (by kernel_rfl) (by kernel_rfl) (fun _ _ _ h => h) (by kernel_rfl) ?_
    try simp only [Act.put, List.getElem_toArray, List.getElem_cons_succ, List.getElem_cons_zero, List.setIfInBounds_toArray, List.set_cons_zero, List.set_cons_succ]
    refine Script.skip (i := 5) rfl (by kernel_rfl) (by kernel_rfl) (fun _ _ _ h => h) (by kernel_rfl) ?_
    try simp only [Act.put, List.getElem_toArray, List.getElem_cons_succ, List.getElem_cons_zero, List.setIfInBounds_toArray, List.set_cons_zero, List.set_cons_succ]
    refine Script.skip (i := 6) rfl (by kernel_rfl) (by kernel_rfl) (fun _ _ _ h => h) (by kernel_rfl) ?_
    try simp only [Act.put, List.getElem_toArray, List.getElem_cons_succ, List.getElem_cons_zero, List.setIfInBounds_toArray, List.set_cons_zero, List.set_cons_succ]
    refine Script.load (i := 7) (v := ?_) rfl (by kernel_rfl) (by kernel_rfl) (fun _ _ _ h => h) (by kernel_rfl) ?_ ?_
    rotate_left
    · (intro wS hSw; obtain ⟨c0, c1, c2, -, -⟩ := B0.out.later (After.trans (After.drew (After.refl _)) hSw); go_simp; try with_reducible rfl)
    try simp only [Act.put, List.getElem_toArray, List.getElem_cons_succ, List.getElem_cons_zero, List.setIfInBounds_toArray, List.set_cons_zero, List.set_cons_succ]
    refine Script.load (i := 8) (v := ?_) rfl (by kernel_rfl) (by kernel_rfl) (fun _ _ _ h => h) (by kernel_rfl) ?_ ?_
    rotate_left
    · (intro wS hSw; obtain ⟨c0, c1, c2, -, -⟩ := B0.out.later (After.trans (After.drew (After.refl _)) hSw); go_simp; try with_reducible rfl)
    try simp only [Act.put, List.getElem_toArray, List.getElem_cons_succ, List.getElem_cons_zero, List.setIfInBounds_toArray, List.set_cons_zero, List.set_cons_succ]
    refine Script.skip (i := 9) rfl (by kernel_rfl) (by kernel_rfl) (fun _ _ _ h => h) (by kernel_rfl) ?_
    try simp only [Act.put, List.getElem_toArray, List.getElem_cons_succ, List.getElem_cons_zero, List.setIfInBounds_toArray, List.set_cons_zero, List.set_cons_succ]
    refine Script.skip (i := 10) rfl (by kernel_rfl) (by kernel_rfl) (fun _ _ _ h => h) (by kernel_rfl) ?_
    try simp only [Act.put, List.getElem_toArray, List.getElem_cons_succ, List.getElem_cons_zero, List.setIfInBounds_toArray, List.set_cons_zero, List.set_cons_succ]
    refine Script.skip (i := 11) rfl (by kernel_rfl) (by kernel_rfl) (fun _ _ _ h => h) (by kernel_rfl) ?_
    try simp only [Act.put, List.getElem_toArray, List.getElem_cons_succ, List.getElem_cons_zero, List.setIfInBounds_toArray, List.set_cons_zero, List.set_cons_succ]
    refine Script.load (i := 12) (v := ?_) rfl (by kernel_rfl) (by kernel_rfl) (fun _ _ _ h => h) (by kernel_rfl) ?_ ?_
    rotate_left
    · (intro wS hSw; obtain ⟨c0, c1, c2, -, -⟩ := B0.out.later (After.trans (After.drew (After.refl _)) hSw); go_simp; try with_reducible rfl)
    try simp only [Act.put, List.getElem_toArray, List.getElem_cons_succ, List.getElem_cons_zero, List.setIfInBounds_toArray, List.set_cons_zero, List.set_cons_succ]
    refine Script.load (i := 13) (v := ?_) rfl (by kernel_rfl) (by kernel_rfl) (fun _ _ _ h => h) (by kernel_rfl) ?_ ?_
    rotate_left
    · (intro wS hSw; obtain ⟨c0, c1, c2, -, -⟩ := B0.out.later (After.trans (After.drew (After.refl _)) hSw); go_simp; try with_reducible rfl)
    try simp only [Act.put, List.getElem_toArray, List.getElem_cons_succ, List.getElem_cons_zero, List.setIfInBounds_toArray, List.set_cons_zero, List.set_cons_succ]
    refine Script.skip (i := 14) rfl (by kernel_rfl) (by kernel_rfl) (fun _ _ _ h => h) (by kernel_rfl) ?_
    try simp only [Act.put, List.getElem_toArray, List.getElem_cons_succ, List.getElem_cons_zero, List.setIfInBounds_toArray, List.set_cons_zero, List.set_cons_succ]
    refine Script.skip (i := 15) rfl (by kernel_rfl) (by kernel_rfl) (fun _ _ _ h => h) (by kernel_rfl) ?_
    try simp only [Act.put, List.getElem_toArray, List.getElem_cons_succ, List.getElem_cons_zero, List.setIfInBounds_toArray, List.set_cons_zero, List.set_cons_succ]
    refine Script.skip (i := 16) rfl (by kernel_rfl) (by kernel_rfl) (fun _ _ _ h => h) (by kernel_rfl) ?_
    try simp only [Act.put, List.getElem_toArray, List.getElem_cons_succ, List.getElem_cons_zero, List.setIfInBounds_toArray, List.set_cons_zero, List.set_cons_succ]
    refine Script.skip (i := 17) rfl (by kernel_rfl) (by kernel_rfl) (fun _ _ _ h => h) (by kernel_rfl) ?_
    try simp only [Act.put, List.getElem_toArray, List.getElem_cons_succ, List.getElem_cons_zero, List.setIfInBounds_toArray, List.set_cons_zero, List.set_cons_succ]
    refine Script.skip (i := 18) rfl (by kernel_rfl) (by kernel_rfl) (fun _ _ _ h => h) (by kernel_rfl) ?_
    try simp only [Act.put, List.getElem_toArray, List.getElem_cons_succ, List.getElem_cons_zero, List.setIfInBounds_toArray, List.set_cons_zero, List.set_cons_succ]
    refine Script.skip (i := 19) rfl (by kernel_rfl) (by kernel_rfl) (fun _ _ _ h => h) (by kernel_rfl) ?_
    try simp only [Act.put, List.getElem_toArray, List.getElem_cons_succ, List.getElem_cons_zero, List.setIfInBounds_toArray, List.set_cons_zero, List.set_cons_succ]
    refine Script.skip (i := 20) rfl (by kernel_rfl) (by kernel_rfl) (fun _ _ _ h => h) (by kernel_rfl) ?_
    try simp only [Act.put, List.getElem_toArray, List.getElem_cons_succ, List.getElem_cons_zero, List.setIfInBounds_toArray, List.set_cons_zero, List.set_cons_succ]
    refine Script.skip (i := 21) rfl (by kernel_rfl) (by kernel_rfl) (fun _ _ _ h => h) (by kernel_rfl) ?_
    try simp only [Act.put, List.getElem_toArray, List.getElem_cons_succ, List.getElem_cons_zero, List.setIfInBounds_toArray, List.set_cons_zero, List.set_cons_succ]
    refine Script.skip (i := 22) rfl (by kernel_rfl) (by kernel_rfl) (fun _ _ _ h => h) (by kernel_rfl) ?_
    try simp only [Act.put, List.getElem_toArray, List.getElem_cons_succ, List.getElem_cons_zero, List.setIfInBounds_toArray, List.set_cons_zero, List.set_cons_succ]
    refine Script.load (i := 23) (v := ?_) rfl (by kernel_rfl) (by kernel_rfl) (fun _ _ _ h => h) (by kernel_rfl) ?_ ?_
    rotate_left
    · (intro wS hSw; obtain ⟨c0, c1, c2, -, -⟩ := B0.out.later (After.trans (After.drew (After.refl _)) hSw); go_simp; try with_reducible rfl)
    try simp only [Act.put, List.getElem_toArray, List.getElem_cons_succ, List.getElem_cons_zero, List.setIfInBounds_toArray, List.set_cons_zero, List.set_cons_succ]
    refine Script.load (i := 24) (v := ?_) rfl (by kernel_rfl) (by kernel_rfl) (fun _ _ _ h => h) (by kernel_rfl) ?_ ?_
    rotate_left
    · (intro wS hSw; obtain ⟨c0, c1, c2, -, -⟩ := B0.out.later (After.trans (After.drew (After.refl _)) hSw); go_simp; try with_reducible rfl)
    try simp only [Act.put, List.getElem_toArray, List.getElem_cons_succ, List.getElem_cons_zero, List.setIfInBounds_toArray, List.set_cons_zero, List.set_cons_succ]
    refine Script.done (by kernel_rfl) ?_
    intro wD hD hG
    have B1 := Lib.hid (B0.out.later (After.trans (After.drew (After.refl _)) hD))
    clear hD hG B0
    go_wp2_with fail
    go_ret
    exact ⟨rfl, B1.out.2.2.2.2⟩
  · cases p
    · go_enter Tryz.func11, Tryz.ntmps11
      go_wp2_with fail
      have B0 := Lib.hid (box_new W H Z w)
      generalize w.alloc (.cells #[.int .i64 W, .int .i64 H, .int .i64 Z] 25) = W1 at *
      refine wp_region_script (by kernel_rfl) (by kernel_rfl) ?_
      refine Script.load (i := 0) (v := ?_) rfl (by kernel_rfl) (by kernel_rfl) (fun _ _ _ h => h) (by kernel_rfl) ?_ ?_
      rotate_left
      · (intro wS hSw; obtain ⟨c0, c1, c2, -, -⟩ := B0.out.later (After.trans (After.drew (After.refl _)) hSw); go_simp; try with_reducible rfl)
      try simp only [Act.put, List.getElem_toArray, List.getElem_cons_succ, List.getElem_cons_zero, List.setIfInBounds_toArray, List.set_cons_zero, List.set_cons_succ]
      refine Script.load (i := 1) (v := ?_) rfl (by kernel_rfl) (by kernel_rfl) (fun _ _ _ h => h) (by kernel_rfl) ?_ ?_
      rotate_left
      · (intro wS hSw; obtain ⟨c0, c1, c2, -, -⟩ := B0.out.later (After.trans (After.drew (After.refl _)) hSw); go_simp; try with_reducible rfl)
      try simp only [Act.put, List.getElem_toArray, List.getElem_cons_succ, List.getElem_cons_zero, List.setIfInBounds_toArray, List.set_cons_zero, List.set_cons_succ]
      refine Script.call (i := 2) (v := ?_) rfl (by kernel_rfl) (by kernel_rfl) (fun _ _ _ h => h) (by kernel_rfl) ?_ ?_
      rotate_left
      · (intro wS hSw K hK; obtain ⟨c0, c1, c2, -, -⟩ := B0.out.later (After.trans (After.drew (After.refl _)) hSw); go_simp; go_at_call 42; refine (C1.out _ (HI.out.later (B0.out.later (After.trans (After.drew (After.refl _)) hSw)).2.2.2.2)).mono ?_; rintro e wc ⟨rfl, hbc⟩; exact hK.out _ hbc)
      try simp only [Act.put, List.getElem_toArray, List.getElem_cons_succ, List.getElem_cons_zero, List.setIfInBounds_toArray, List.set_cons_zero, List.set_cons_succ]
      refine Script.load (i := 3) (v := ?_) rfl (by kernel_rfl) (by kernel_rfl) (fun _ _ _ h => h) (by kernel_rfl) ?_ ?_
      rotate_left
      · (intro wS hSw; obtain ⟨c0, c1, c2, -, -⟩ := B0.out.later (After.trans (After.drew (After.refl _)) hSw); go_simp; try with_reducible rfl)
      try simp only [Act.put, List.getElem_toArray, List.getElem_cons_succ, List.getElem_cons_zero, List.setIfInBounds_toArray, List.set_cons_zero, List.set_cons_succ]
      refine Script.load (i := 4) (v := ?_) rfl (by kernel_rfl) (by kernel_rfl) (fun _ _ _ h => h) (by kernel_rfl) ?_ ?_
      rotate_left
      · (intro wS hSw; obtain ⟨c0, c1, c2, -, -⟩ := B0.out.later (After.trans (After.drew (After.refl _)) hSw); go_simp; try with_reducible rfl)
      try simp only [Act.put, List.getElem_toArray, List.getElem_cons_succ, List.getElem_cons_zero, List.setIfInBounds_toArray, List.set_cons_zero, List.set_cons_succ]
      refine Script.load (i := 5) (v := ?_) rfl (by kernel_rfl) (by kernel_rfl) (fun _ _ _ h => h) (by kernel_rfl) ?_ ?_
      rotate_left
      · (intro wS hSw; obtain ⟨c0, c1, c2, -, -⟩ := B0.out.later (After.trans (After.drew (After.refl _)) hSw); go_simp; try with_reducible rfl)
      try simp only [Act.put, List.getElem_toArray, List.getElem_cons_succ, List.getElem_cons_zero, List.setIfInBounds_toArray, List.set_cons_zero, List.set_cons_succ]
      refine Script.call (i := 6) (v := ?_) rfl (by kernel_rfl) (by kernel_rfl) (fun _ _ _ h => h) (by kernel_rfl) ?_ ?_
      rotate_left
      · (intro wS hSw K hK; obtain ⟨c0, c1, c2, -, -⟩ := B0.out.later (After.trans (After.drew (After.refl _)) hSw); go_simp; go_at_call 43; refine (C2.out _ ).mono ?_; rintro e wc ⟨rfl, hbc⟩; exact hK.out _ hbc)
      try simp only [Act.put, List.getElem_toArray, List.getElem_cons_succ, List.getElem_cons_zero, List.setIfInBounds_toArray, List.set_cons_zero, List.set_cons_succ]
      refine Script.load (i := 7) (v := ?_) rfl (by kernel_rfl) (by kernel_rfl) (fun _ _ _ h => h) (by kernel_rfl) ?_ ?_
      rotate_left
      · (intro wS hSw; obtain ⟨c0, c1, c2, -, -⟩ := B0.out.later (After.trans (After.drew (After.refl _)) hSw); go_simp; try with_reducible rfl)
      try simp only [Act.put, List.getElem_toArray, List.getElem_cons_succ, List.getElem_cons_zero, List.setIfInBounds_toArray, List.set_cons_zero, List.set_cons_succ]
      refine Script.load (i := 8) (v := ?_) rfl (by kernel_rfl) (by kernel_rfl) (fun _ _ _ h => h) (by kernel_rfl) ?_ ?_
      rotate_left
      · (intro wS hSw; obtain ⟨c0, c1, c2, -, -⟩ := B0.out.later (After.trans (After.drew (After.refl _)) hSw); go_simp; try with_reducible rfl)
      try simp only [Act.put, List.getElem_toArray, List.getElem_cons_succ, List.getElem_cons_zero, List.setIfInBounds_toArray, List.set_cons_zero, List.set_cons_succ]
      refine Script.skip (i := 9) rfl (by kernel_rfl) (by kernel_rfl) (fun _ _ _ h => h) (by kernel_rfl) ?_
      try simp only [Act.put, List.getElem_toArray, List.getElem_cons_succ, List.getElem_cons_zero, List.setIfInBounds_toArray, List.set_cons_zero, List.set_cons_succ]
      refine Script.skip (i := 10) rfl (by kernel_rfl) (by kernel_rfl) (fun _ _ _ h => h) (by kernel_rfl) ?_
      try simp only [Act.put, List.getElem_toArray, List.getElem_cons_succ, List.getElem_cons_zero, List.setIfInBounds_toArray, List.set_cons_zero, List.set_cons_succ]
      refine Script.skip (i := 11) rfl (by kernel_rfl) (by kernel_rfl) (fun _ _ _ h => h) (by kernel_rfl) ?_
      try simp only [Act.put, List.getElem_toArray, List.getElem_cons_succ, List.getElem_cons_zero, List.setIfInBounds_toArray, List.set_cons_zero, List.set_cons_succ]
      refine Script.load (i := 12) (v := ?_) rfl (by kernel_rfl) (by kernel_rfl) (fun _ _ _ h => h) (by kernel_rfl) ?_ ?_
      rotate_left
      · (intro wS hSw; obtain ⟨c0, c1, c2, -, -⟩ := B0.out.later (After.trans (After.drew (After.refl _)) hSw); go_simp; try with_reducible rfl)
      try simp only [Act.put, List.getElem_toArray, List.getElem_cons_succ, List.getElem_cons_zero, List.setIfInBounds_toArray, List.set_cons_zero, List.set_cons_succ]
      refine Script.load (i := 13) (v := ?_) rfl (by kernel_rfl) (by kernel_rfl) (fun _ _ _ h => h) (by kernel_rfl) ?_ ?_
      rotate_left
      · (intro wS hSw; obtain ⟨c0, c1, c2, -, -⟩ := B0.out.later (After.trans (After.drew (After.refl _)) hSw); go_simp; try with_reducible rfl)
      try simp only [Act.put, List.getElem_toArray, List.getElem_cons_succ, List.getElem_cons_zero, List.setIfInBounds_toArray, List.set_cons_zero, List.set_cons_succ]
      refine Script.skip (i := 14) rfl (by kernel_rfl) (by kernel_rfl) (fun _ _ _ h => h) (by kernel_rfl) ?_
      try simp only [Act.put, List.getElem_toArray, List.getElem_cons_succ, List.getElem_cons_zero, List.setIfInBounds_toArray, List.set_cons_zero, List.set_cons_succ]
      refine Script.skip (i := 15) rfl (by kernel_rfl) (by kernel_rfl) (fun _ _ _ h => h) (by kernel_rfl) ?_
      try simp only [Act.put, List.getElem_toArray, List.getElem_cons_succ, List.getElem_cons_zero, List.setIfInBounds_toArray, List.set_cons_zero, List.set_cons_succ]
      refine Script.skip (i := 16) rfl (by kernel_rfl) (by kernel_rfl) (fun _ _ _ h => h) (by kernel_rfl) ?_
      try simp only [Act.put, List.getElem_toArray, List.getElem_cons_succ, List.getElem_cons_zero, List.setIfInBounds_toArray, List.set_cons_zero, List.set_cons_succ]
      refine Script.skip (i := 17) rfl (by kernel_rfl) (by kernel_rfl) (fun _ _ _ h => h) (by kernel_rfl) ?_
      try simp only [Act.put, List.getElem_toArray, List.getElem_cons_succ, List.getElem_cons_zero, List.setIfInBounds_toArray, List.set_cons_zero, List.set_cons_succ]
      refine Script.skip (i := 18) rfl (by kernel_rfl) (by kernel_rfl) (fun _ _ _ h => h) (by kernel_rfl) ?_
      try simp only [Act.put, List.getElem_toArray, List.getElem_cons_succ, List.getElem_cons_zero, List.setIfInBounds_toArray, List.set_cons_zero, List.set_cons_succ]
      refine Script.skip (i := 19) rfl (by kernel_rfl) (by kernel_rfl) (fun _ _ _ h => h) (by kernel_rfl) ?_
      try simp only [Act.put, List.getElem_toArray, List.getElem_cons_succ, List.getElem_cons_zero, List.setIfInBounds_toArray, List.set_cons_zero, List.set_cons_succ]
      refine Script.skip (i := 20) rfl (by kernel_rfl) (by kernel_rfl) (fun _ _ _ h => h) (by kernel_rfl) ?_
      try simp only [Act.put, List.getElem_toArray, List.getElem_cons_succ, List.getElem_cons_zero, List.setIfInBounds_toArray, List.set_cons_zero, List.set_cons_succ]
      refine Script.skip (i := 21) rfl (by kernel_rfl) (by kernel_rfl) (fun _ _ _ h => h) (by kernel_rfl) ?_
      try simp only [Act.put, List.getElem_toArray, List.getElem_cons_succ, List.getElem_cons_zero, List.setIfInBounds_toArray, List.set_cons_zero, List.set_cons_succ]
      refine Script.skip (i := 22) rfl (by kernel_rfl) (by kernel_rfl) (fun _ _ _ h => h) (by kernel_rfl) ?_
      try simp only [Act.put, List.getElem_toArray, List.getElem_cons_succ, List.getElem_cons_zero, List.setIfInBounds_toArray, List.set_cons_zero, List.set_cons_succ]
      refine Script.load (i := 23) (v := ?_) rfl (by kernel_rfl) (by kernel_rfl) (fun _ _ _ h => h) (by kernel_rfl) ?_ ?_
      rotate_left
      · (intro wS hSw; obtain ⟨c0, c1, c2, -, -⟩ := B0.out.later (After.trans (After.drew (After.refl _)) hSw); go_simp; try with_reducible rfl)
      try simp only [Act.put, List.getElem_toArray, List.getElem_cons_succ, List.getElem_cons_zero, List.setIfInBounds_toArray, List.set_cons_zero, List.set_cons_succ]
      refine Script.load (i := 24) (v := ?_) rfl (by kernel_rfl) (by kernel_rfl) (fun _ _ _ h => h) (by kernel_rfl) ?_ ?_
      rotate_left
      · (intro wS hSw; obtain ⟨c0, c1, c2, -, -⟩ := B0.out.later (After.trans (After.drew (After.refl _)) hSw); go_simp; try with_reducible rfl)
      try simp only [Act.put, List.getElem_toArray, List.getElem_cons_succ, List.getElem_cons_zero, List.setIfInBounds_toArray, List.set_cons_zero, List.set_cons_succ]
      refine Script.done (by kernel_rfl) ?_
      intro wD hD hG
      have B1 := Lib.hid (B0.out.later (After.trans (After.drew (After.refl _)) hD))
      clear hD hG B0
      go_wp2_with fail
      go_ret
      exact ⟨rfl, B1.out.2.2.2.2⟩
    · cases g
      · go_enter Tryz.func11, Tryz.ntmps11
        go_wp2_with fail
        have B0 := Lib.hid (box_new W H Z w)
        generalize w.alloc (.cells #[.int .i64 W, .int .i64 H, .int .i64 Z] 25) = W1 at *
        refine wp_region_script (by kernel_rfl) (by kernel_rfl) ?_
        refine Script.load (i := 0) (v := ?_) rfl (by kernel_rfl) (by kernel_rfl) (fun _ _ _ h => h) (by kernel_rfl) ?_ ?_
        rotate_left
        · (intro wS hSw; obtain ⟨c0, c1, c2, -, -⟩ := B0.out.later (After.trans (After.drew (After.refl _)) hSw); go_simp; try with_reducible rfl)
        try simp only [Act.put, List.getElem_toArray, List.getElem_cons_succ, List.getElem_cons_zero, List.setIfInBounds_toArray, List.set_cons_zero, List.set_cons_succ]
        refine Script.load (i := 1) (v := ?_) rfl (by kernel_rfl) (by kernel_rfl) (fun _ _ _ h => h) (by kernel_rfl) ?_ ?_
        rotate_left
        · (intro wS hSw; obtain ⟨c0, c1, c2, -, -⟩ := B0.out.later (After.trans (After.drew (After.refl _)) hSw); go_simp; try with_reducible rfl)
        try simp only [Act.put, List.getElem_toArray, List.getElem_cons_succ, List.getElem_cons_zero, List.setIfInBounds_toArray, List.set_cons_zero, List.set_cons_succ]
        refine Script.call (i := 2) (v := ?_) rfl (by kernel_rfl) (by kernel_rfl) (fun _ _ _ h => h) (by kernel_rfl) ?_ ?_
        rotate_left
        · (intro wS hSw K hK; obtain ⟨c0, c1, c2, -, -⟩ := B0.out.later (After.trans (After.drew (After.refl _)) hSw); go_simp; go_at_call 42; refine (C1.out _ (HI.out.later (B0.out.later (After.trans (After.drew (After.refl _)) hSw)).2.2.2.2)).mono ?_; rintro e wc ⟨rfl, hbc⟩; exact hK.out _ hbc)
        try simp only [Act.put, List.getElem_toArray, List.getElem_cons_succ, List.getElem_cons_zero, List.setIfInBounds_toArray, List.set_cons_zero, List.set_cons_succ]
        refine Script.load (i := 3) (v := ?_) rfl (by kernel_rfl) (by kernel_rfl) (fun _ _ _ h => h) (by kernel_rfl) ?_ ?_
        rotate_left
        · (intro wS hSw; obtain ⟨c0, c1, c2, -, -⟩ := B0.out.later (After.trans (After.drew (After.refl _)) hSw); go_simp; try with_reducible rfl)
        try simp only [Act.put, List.getElem_toArray, List.getElem_cons_succ, List.getElem_cons_zero, List.setIfInBounds_toArray, List.set_cons_zero, List.set_cons_succ]
        refine Script.load (i := 4) (v := ?_) rfl (by kernel_rfl) (by kernel_rfl) (fun _ _ _ h => h) (by kernel_rfl) ?_ ?_
        rotate_left
        · (intro wS hSw; obtain ⟨c0, c1, c2, -, -⟩ := B0.out.later (After.trans (After.drew (After.refl _)) hSw); go_simp; try with_reducible rfl)
        try simp only [Act.put, List.getElem_toArray, List.getElem_cons_succ, List.getElem_cons_zero, List.setIfInBounds_toArray, List.set_cons_zero, List.set_cons_succ]
        refine Script.load (i := 5) (v := ?_) rfl (by kernel_rfl) (by kernel_rfl) (fun _ _ _ h => h) (by kernel_rfl) ?_ ?_
        rotate_left
        · (intro wS hSw; obtain ⟨c0, c1, c2, -, -⟩ := B0.out.later (After.trans (After.drew (After.refl _)) hSw); go_simp; try with_reducible rfl)
        try simp only [Act.put, List.getElem_toArray, List.getElem_cons_succ, List.getElem_cons_zero, List.setIfInBounds_toArray, List.set_cons_zero, List.set_cons_succ]
        refine Script.call (i := 6) (v := ?_) rfl (by kernel_rfl) (by kernel_rfl) (fun _ _ _ h => h) (by kernel_rfl) ?_ ?_
        rotate_left
        · (intro wS hSw K hK; obtain ⟨c0, c1, c2, -, -⟩ := B0.out.later (After.trans (After.drew (After.refl _)) hSw); go_simp; go_at_call 43; refine (C2.out _ ).mono ?_; rintro e wc ⟨rfl, hbc⟩; exact hK.out _ hbc)
        try simp only [Act.put, List.getElem_toArray, List.getElem_cons_succ, List.getElem_cons_zero, List.setIfInBounds_toArray, List.set_cons_zero, List.set_cons_succ]
        refine Script.load (i := 7) (v := ?_) rfl (by kernel_rfl) (by kernel_rfl) (fun _ _ _ h => h) (by kernel_rfl) ?_ ?_
        rotate_left
        · (intro wS hSw; obtain ⟨c0, c1, c2, -, -⟩ := B0.out.later (After.trans (After.drew (After.refl _)) hSw); go_simp; try with_reducible rfl)
        try simp only [Act.put, List.getElem_toArray, List.getElem_cons_succ, List.getElem_cons_zero, List.setIfInBounds_toArray, List.set_cons_zero, List.set_cons_succ]
        refine Script.load (i := 8) (v := ?_) rfl (by kernel_rfl) (by kernel_rfl) (fun _ _ _ h => h) (by kernel_rfl) ?_ ?_
        rotate_left
        · (intro wS hSw; obtain ⟨c0, c1, c2, -, -⟩ := B0.out.later (After.trans (After.drew (After.refl _)) hSw); go_simp; try with_reducible rfl)
        try simp only [Act.put, List.getElem_toArray, List.getElem_cons_succ, List.getElem_cons_zero, List.setIfInBounds_toArray, List.set_cons_zero, List.set_cons_succ]
        refine Script.load (i := 9) (v := ?_) rfl (by kernel_rfl) (by kernel_rfl) (fun _ _ _ h => h) (by kernel_rfl) ?_ ?_
        rotate_left
        · (intro wS hSw; obtain ⟨c0, c1, c2, -, -⟩ := B0.out.later (After.trans (After.drew (After.refl _)) hSw); go_simp; try with_reducible rfl)
        try simp only [Act.put, List.getElem_toArray, List.getElem_cons_succ, List.getElem_cons_zero, List.setIfInBounds_toArray, List.set_cons_zero, List.set_cons_succ]
        refine Script.load (i := 10) (v := ?_) rfl (by kernel_rfl) (by kernel_rfl) (fun _ _ _ h => h) (by kernel_rfl) ?_ ?_
        rotate_left
        · (intro wS hSw; obtain ⟨c0, c1, c2, -, -⟩ := B0.out.later (After.trans (After.drew (After.refl _)) hSw); go_simp; try with_reducible rfl)
        try simp only [Act.put, List.getElem_toArray, List.getElem_cons_succ, List.getElem_cons_zero, List.setIfInBounds_toArray, List.set_cons_zero, List.set_cons_succ]
        refine Script.call (i := 11) (v := ?_) rfl (by kernel_rfl) (by kernel_rfl) (fun _ _ _ h => h) (by kernel_rfl) ?_ ?_
        rotate_left
        · (intro wS hSw K hK; obtain ⟨c0, c1, c2, -, -⟩ := B0.out.later (After.trans (After.drew (After.refl _)) hSw); go_simp; go_at_call 43; refine (C3.out _ ).mono ?_; rintro e wc ⟨rfl, hbc⟩; exact hK.out _ hbc)
        try simp only [Act.put, List.getElem_toArray, List.getElem_cons_succ, List.getElem_cons_zero, List.setIfInBounds_toArray, List.set_cons_zero, List.set_cons_succ]
        refine Script.load (i := 12) (v := ?_) rfl (by kernel_rfl) (by kernel_rfl) (fun _ _ _ h => h) (by kernel_rfl) ?_ ?_
        rotate_left
        · (intro wS hSw; obtain ⟨c0, c1, c2, -, -⟩ := B0.out.later (After.trans (After.drew (After.refl _)) hSw); go_simp; try with_reducible rfl)
        try simp only [Act.put, List.getElem_toArray, List.getElem_cons_succ, List.getElem_cons_zero, List.setIfInBounds_toArray, List.set_cons_zero, List.set_cons_succ]
        refine Script.load (i := 13) (v := ?_) rfl (by kernel_rfl) (by kernel_rfl) (fun _ _ _ h => h) (by kernel_rfl) ?_ ?_
        rotate_left
        · (intro wS hSw; obtain ⟨c0, c1, c2, -, -⟩ := B0.out.later (After.trans (After.drew (After.refl _)) hSw); go_simp; try with_reducible rfl)
        try simp only [Act.put, List.getElem_toArray, List.getElem_cons_succ, List.getElem_cons_zero, List.setIfInBounds_toArray, List.set_cons_zero, List.set_cons_succ]
        refine Script.skip (i := 14) rfl (by kernel_rfl) (by kernel_rfl) (fun _ _ _ h => h) (by kernel_rfl) ?_
        try simp only [Act.put, List.getElem_toArray, List.getElem_cons_succ, List.getElem_cons_zero, List.setIfInBounds_toArray, List.set_cons_zero, List.set_cons_succ]
        refine Script.skip (i := 15) rfl (by kernel_rfl) (by kernel_rfl) (fun _ _ _ h => h) (by kernel_rfl) ?_
        try simp only [Act.put, List.getElem_toArray, List.getElem_cons_succ, List.getElem_cons_zero, List.setIfInBounds_toArray, List.set_cons_zero, List.set_cons_succ]
        refine Script.skip (i := 16) rfl (by kernel_rfl) (by kernel_rfl) (fun _ _ _ h => h) (by kernel_rfl) ?_
        try simp only [Act.put, List.getElem_toArray, List.getElem_cons_succ, List.getElem_cons_zero, List.setIfInBounds_toArray, List.set_cons_zero, List.set_cons_succ]
        refine Script.skip (i := 17) rfl (by kernel_rfl) (by kernel_rfl) (fun _ _ _ h => h) (by kernel_rfl) ?_
        try simp only [Act.put, List.getElem_toArray, List.getElem_cons_succ, List.getElem_cons_zero, List.setIfInBounds_toArray, List.set_cons_zero, List.set_cons_succ]
        refine Script.skip (i := 18) rfl (by kernel_rfl) (by kernel_rfl) (fun _ _ _ h => h) (by kernel_rfl) ?_
        try simp only [Act.put, List.getElem_toArray, List.getElem_cons_succ, List.getElem_cons_zero, List.setIfInBounds_toArray, List.set_cons_zero, List.set_cons_succ]
        refine Script.skip (i := 19) rfl (by kernel_rfl) (by kernel_rfl) (fun _ _ _ h => h) (by kernel_rfl) ?_
        try simp only [Act.put, List.getElem_toArray, List.getElem_cons_succ, List.getElem_cons_zero, List.setIfInBounds_toArray, List.set_cons_zero, List.set_cons_succ]
        refine Script.skip (i := 20) rfl (by kernel_rfl) (by kernel_rfl) (fun _ _ _ h => h) (by kernel_rfl) ?_
        try simp only [Act.put, List.getElem_toArray, List.getElem_cons_succ, List.getElem_cons_zero, List.setIfInBounds_toArray, List.set_cons_zero, List.set_cons_succ]
        refine Script.skip (i := 21) rfl (by kernel_rfl) (by kernel_rfl) (fun _ _ _ h => h) (by kernel_rfl) ?_
        try simp only [Act.put, List.getElem_toArray, List.getElem_cons_succ, List.getElem_cons_zero, List.setIfInBounds_toArray, List.set_cons_zero, List.set_cons_succ]
        refine Script.skip (i := 22) rfl (by kernel_rfl) (by kernel_rfl) (fun _ _ _ h => h) (by kernel_rfl) ?_
        try simp only [Act.put, List.getElem_toArray, List.getElem_cons_succ, List.getElem_cons_zero, List.setIfInBounds_toArray, List.set_cons_zero, List.set_cons_succ]
        refine Script.load (i := 23) (v := ?_) rfl (by kernel_rfl) (by kernel_rfl) (fun _ _ _ h => h) (by kernel_rfl) ?_ ?_
        rotate_left
        · (intro wS hSw; obtain ⟨c0, c1, c2, -, -⟩ := B0.out.later (After.trans (After.drew (After.refl _)) hSw); go_simp; try with_reducible rfl)
        try simp only [Act.put, List.getElem_toArray, List.getElem_cons_succ, List.getElem_cons_zero, List.setIfInBounds_toArray, List.set_cons_zero, List.set_cons_succ]
        refine Script.load (i := 24) (v := ?_) rfl (by kernel_rfl) (by kernel_rfl) (fun _ _ _ h => h) (by kernel_rfl) ?_ ?_
        rotate_left
        · (intro wS hSw; obtain ⟨c0, c1, c2, -, -⟩ := B0.out.later (After.trans (After.drew (After.refl _)) hSw); go_simp; try with_reducible rfl)
        try simp only [Act.put, List.getElem_toArray, List.getElem_cons_succ, List.getElem_cons_zero, List.setIfInBounds_toArray, List.set_cons_zero, List.set_cons_succ]
        refine Script.done (by kernel_rfl) ?_
        intro wD hD hG
        have B1 := Lib.hid (B0.out.later (After.trans (After.drew (After.refl _)) hD))
        clear hD hG B0
        go_wp2_with fail
        go_ret
        exact ⟨rfl, B1.out.2.2.2.2⟩
      · go_enter Tryz.func11, Tryz.ntmps11
        go_wp2_with fail
        have B0 := Lib.hid (box_new W H Z w)
        generalize w.alloc (.cells #[.int .i64 W, .int .i64 H, .int .i64 Z] 25) = W1 at *
        obtain ⟨y, hy⟩ : ∃ y, decide (s < t) = y := ⟨_, rfl⟩
        refine wp_region_script (by kernel_rfl) (by kernel_rfl) ?_
        refine Script.load (i := 0) (v := ?_) rfl (by kernel_rfl) (by kernel_rfl) (fun _ _ _ h => h) (by kernel_rfl) ?_ ?_
        rotate_left
        · (intro wS hSw; obtain ⟨c0, c1, c2, -, -⟩ := B0.out.later (After.trans (After.drew (After.refl _)) hSw); go_simp; try with_reducible rfl)
        try simp only [Act.put, List.getElem_toArray, List.getElem_cons_succ, List.getElem_cons_zero, List.setIfInBounds_toArray, List.set_cons_zero, List.set_cons_succ]
        refine Script.load (i := 1) (v := ?_) rfl (by kernel_rfl) (by kernel_rfl) (fun _ _ _ h => h) (by kernel_rfl) ?_ ?_
        rotate_left
        · (intro wS hSw; obtain ⟨c0, c1, c2, -, -⟩ := B0.out.later (After.trans (After.drew (After.refl _)) hSw); go_simp; try with_reducible rfl)
        try simp only [Act.put, List.getElem_toArray, List.getElem_cons_succ, List.getElem_cons_zero, List.setIfInBounds_toArray, List.set_cons_zero, List.set_cons_succ]
        refine Script.call (i := 2) (v := ?_) rfl (by kernel_rfl) (by kernel_rfl) (fun _ _ _ h => h) (by kernel_rfl) ?_ ?_
        rotate_left
        · (intro wS hSw K hK; obtain ⟨c0, c1, c2, -, -⟩ := B0.out.later (After.trans (After.drew (After.refl _)) hSw); go_simp; go_at_call 42; refine (C1.out _ (HI.out.later (B0.out.later (After.trans (After.drew (After.refl _)) hSw)).2.2.2.2)).mono ?_; rintro e wc ⟨rfl, hbc⟩; exact hK.out _ hbc)
        try simp only [Act.put, List.getElem_toArray, List.getElem_cons_succ, List.getElem_cons_zero, List.setIfInBounds_toArray, List.set_cons_zero, List.set_cons_succ]
        refine Script.load (i := 3) (v := ?_) rfl (by kernel_rfl) (by kernel_rfl) (fun _ _ _ h => h) (by kernel_rfl) ?_ ?_
        rotate_left
        · (intro wS hSw; obtain ⟨c0, c1, c2, -, -⟩ := B0.out.later (After.trans (After.drew (After.refl _)) hSw); go_simp; try with_reducible rfl)
        try simp only [Act.put, List.getElem_toArray, List.getElem_cons_succ, List.getElem_cons_zero, List.setIfInBounds_toArray, List.set_cons_zero, List.set_cons_succ]
        refine Script.load (i := 4) (v := ?_) rfl (by kernel_rfl) (by kernel_rfl) (fun _ _ _ h => h) (by kernel_rfl) ?_ ?_
        rotate_left
        · (intro wS hSw; obtain ⟨c0, c1, c2, -, -⟩ := B0.out.later (After.trans (After.drew (After.refl _)) hSw); go_simp; try with_reducible rfl)
        try simp only [Act.put, List.getElem_toArray, List.getElem_cons_succ, List.getElem_cons_zero, List.setIfInBounds_toArray, List.set_cons_zero, List.set_cons_succ]
        refine Script.load (i := 5) (v := ?_) rfl (by kernel_rfl) (by kernel_rfl) (fun _ _ _ h => h) (by kernel_rfl) ?_ ?_
        rotate_left
        · (intro wS hSw; obtain ⟨c0, c1, c2, -, -⟩ := B0.out.later (After.trans (After.drew (After.refl _)) hSw); go_simp; try with_reducible rfl)
        try simp only [Act.put, List.getElem_toArray, List.getElem_cons_succ, List.getElem_cons_zero, List.setIfInBounds_toArray, List.set_cons_zero, List.set_cons_succ]
        refine Script.call (i := 6) (v := ?_) rfl (by kernel_rfl) (by kernel_rfl) (fun _ _ _ h => h) (by kernel_rfl) ?_ ?_
        rotate_left
        · (intro wS hSw K hK; obtain ⟨c0, c1, c2, -, -⟩ := B0.out.later (After.trans (After.drew (After.refl _)) hSw); go_simp; go_at_call 43; refine (C2.out _ ).mono ?_; rintro e wc ⟨rfl, hbc⟩; exact hK.out _ hbc)
        try simp only [Act.put, List.getElem_toArray, List.getElem_cons_succ, List.getElem_cons_zero, List.setIfInBounds_toArray, List.set_cons_zero, List.set_cons_succ]
        refine Script.load (i := 7) (v := ?_) rfl (by kernel_rfl) (by kernel_rfl) (fun _ _ _ h => h) (by kernel_rfl) ?_ ?_
        rotate_left
        · (intro wS hSw; obtain ⟨c0, c1, c2, -, -⟩ := B0.out.later (After.trans (After.drew (After.refl _)) hSw); go_simp; try with_reducible rfl)
        try simp only [Act.put, List.getElem_toArray, List.getElem_cons_succ, List.getElem_cons_zero, List.setIfInBounds_toArray, List.set_cons_zero, List.set_cons_succ]
        refine Script.load (i := 8) (v := ?_) rfl (by kernel_rfl) (by kernel_rfl) (fun _ _ _ h => h) (by kernel_rfl) ?_ ?_
        rotate_left
        · (intro wS hSw; obtain ⟨c0, c1, c2, -, -⟩ := B0.out.later (After.trans (After.drew (After.refl _)) hSw); go_simp; try with_reducible rfl)
        try simp only [Act.put, List.getElem_toArray, List.getElem_cons_succ, List.getElem_cons_zero, List.setIfInBounds_toArray, List.set_cons_zero, List.set_cons_succ]
        refine Script.load (i := 9) (v := ?_) rfl (by kernel_rfl) (by kernel_rfl) (fun _ _ _ h => h) (by kernel_rfl) ?_ ?_
        rotate_left
        · (intro wS hSw; obtain ⟨c0, c1, c2, -, -⟩ := B0.out.later (After.trans (After.drew (After.refl _)) hSw); go_simp; try with_reducible rfl)
        try simp only [Act.put, List.getElem_toArray, List.getElem_cons_succ, List.getElem_cons_zero, List.setIfInBounds_toArray, List.set_cons_zero, List.set_cons_succ]
        refine Script.load (i := 10) (v := ?_) rfl (by kernel_rfl) (by kernel_rfl) (fun _ _ _ h => h) (by kernel_rfl) ?_ ?_
        rotate_left
        · (intro wS hSw; obtain ⟨c0, c1, c2, -, -⟩ := B0.out.later (After.trans (After.drew (After.refl _)) hSw); go_simp; try with_reducible rfl)
        try simp only [Act.put, List.getElem_toArray, List.getElem_cons_succ, List.getElem_cons_zero, List.setIfInBounds_toArray, List.set_cons_zero, List.set_cons_succ]
        refine Script.call (i := 11) (v := ?_) rfl (by kernel_rfl) (by kernel_rfl) (fun _ _ _ h => h) (by kernel_rfl) ?_ ?_
        rotate_left
        · (intro wS hSw K hK; obtain ⟨c0, c1, c2, -, -⟩ := B0.out.later (After.trans (After.drew (After.refl _)) hSw); go_simp; go_at_call 43; refine (C3.out _ ).mono ?_; rintro e wc ⟨rfl, hbc⟩; exact hK.out _ hbc)
        try simp only [Act.put, List.getElem_toArray, List.getElem_cons_succ, List.getElem_cons_zero, List.setIfInBounds_toArray, List.set_cons_zero, List.set_cons_succ]
        refine Script.load (i := 12) (v := ?_) rfl (by kernel_rfl) (by kernel_rfl) (fun _ _ _ h => h) (by kernel_rfl) ?_ ?_
        rotate_left
        · (intro wS hSw; obtain ⟨c0, c1, c2, -, -⟩ := B0.out.later (After.trans (After.drew (After.refl _)) hSw); go_simp; try with_reducible rfl)
        try simp only [Act.put, List.getElem_toArray, List.getElem_cons_succ, List.getElem_cons_zero, List.setIfInBounds_toArray, List.set_cons_zero, List.set_cons_succ]
        refine Script.load (i := 13) (v := ?_) rfl (by kernel_rfl) (by kernel_rfl) (fun _ _ _ h => h) (by kernel_rfl) ?_ ?_
        rotate_left
        · (intro wS hSw; obtain ⟨c0, c1, c2, -, -⟩ := B0.out.later (After.trans (After.drew (After.refl _)) hSw); go_simp; try with_reducible rfl)
        try simp only [Act.put, List.getElem_toArray, List.getElem_cons_succ, List.getElem_cons_zero, List.setIfInBounds_toArray, List.set_cons_zero, List.set_cons_succ]
        refine Script.load (i := 14) (v := ?_) rfl (by kernel_rfl) (by kernel_rfl) (fun _ _ _ h => h) (by kernel_rfl) ?_ ?_
        rotate_left
        · (intro wS hSw; obtain ⟨c0, c1, c2, -, -⟩ := B0.out.later (After.trans (After.drew (After.refl _)) hSw); go_simp; try with_reducible rfl)
        try simp only [Act.put, List.getElem_toArray, List.getElem_cons_succ, List.getElem_cons_zero, List.setIfInBounds_toArray, List.set_cons_zero, List.set_cons_succ]
        refine Script.load (i := 15) (v := ?_) rfl (by kernel_rfl) (by kernel_rfl) (fun _ _ _ h => h) (by kernel_rfl) ?_ ?_
        rotate_left
        · (intro wS hSw; obtain ⟨c0, c1, c2, -, -⟩ := B0.out.later (After.trans (After.drew (After.refl _)) hSw); go_simp; try with_reducible rfl)
        try simp only [Act.put, List.getElem_toArray, List.getElem_cons_succ, List.getElem_cons_zero, List.setIfInBounds_toArray, List.set_cons_zero, List.set_cons_succ]
        refine Script.load (i := 16) (v := ?_) rfl (by kernel_rfl) (by kernel_rfl) (fun _ _ _ h => h) (by kernel_rfl) ?_ ?_
        rotate_left
        · (intro wS hSw; obtain ⟨c0, c1, c2, -, -⟩ := B0.out.later (After.trans (After.drew (After.refl _)) hSw); go_simp; try with_reducible rfl)
        try simp only [Act.put, List.getElem_toArray, List.getElem_cons_succ, List.getElem_cons_zero, List.setIfInBounds_toArray, List.set_cons_zero, List.set_cons_succ]
        refine Script.call (i := 17) (v := ?_) rfl (by kernel_rfl) (by kernel_rfl) (fun _ _ _ h => h) (by kernel_rfl) ?_ ?_
        rotate_left
        · (intro wS hSw K hK; obtain ⟨c0, c1, c2, -, -⟩ := B0.out.later (After.trans (After.drew (After.refl _)) hSw); go_simp; go_at_call 44; refine (C4.out _ (HI.out.later (B0.out.later (After.trans (After.drew (After.refl _)) hSw)).2.2.2.2)).mono ?_; rintro e wc ⟨rfl, hbc⟩; exact hK.out _ hbc)
        try simp only [Act.put, List.getElem_toArray, List.getElem_cons_succ, List.getElem_cons_zero, List.setIfInBounds_toArray, List.set_cons_zero, List.set_cons_succ]
        refine Script.load (i := 18) (v := ?_) rfl (by kernel_rfl) (by kernel_rfl) (fun _ _ _ h => h) (by kernel_rfl) ?_ ?_
        rotate_left
        · (intro wS hSw; obtain ⟨c0, c1, c2, -, -⟩ := B0.out.later (After.trans (After.drew (After.refl _)) hSw); go_simp; try with_reducible rfl)
        try simp only [Act.put, List.getElem_toArray, List.getElem_cons_succ, List.getElem_cons_zero, List.setIfInBounds_toArray, List.set_cons_zero, List.set_cons_succ]
        refine Script.load (i := 19) (v := ?_) rfl (by kernel_rfl) (by kernel_rfl) (fun _ _ _ h => h) (by kernel_rfl) ?_ ?_
        rotate_left
        · (intro wS hSw; obtain ⟨c0, c1, c2, -, -⟩ := B0.out.later (After.trans (After.drew (After.refl _)) hSw); go_simp; try with_reducible rfl)
        try simp only [Act.put, List.getElem_toArray, List.getElem_cons_succ, List.getElem_cons_zero, List.setIfInBounds_toArray, List.set_cons_zero, List.set_cons_succ]
        refine Script.load (i := 20) (v := ?_) rfl (by kernel_rfl) (by kernel_rfl) (fun _ _ _ h => h) (by kernel_rfl) ?_ ?_
        rotate_left
        · (intro wS hSw; obtain ⟨c0, c1, c2, -, -⟩ := B0.out.later (After.trans (After.drew (After.refl _)) hSw); go_simp; try with_reducible rfl)
        try simp only [Act.put, List.getElem_toArray, List.getElem_cons_succ, List.getElem_cons_zero, List.setIfInBounds_toArray, List.set_cons_zero, List.set_cons_succ]
        refine Script.call (i := 21) (v := ?_) rfl (by kernel_rfl) (by kernel_rfl) (fun _ _ _ h => h) (by kernel_rfl) ?_ ?_
        rotate_left
        · (intro wS hSw K hK; obtain ⟨c0, c1, c2, -, -⟩ := B0.out.later (After.trans (After.drew (After.refl _)) hSw); go_simp; go_at_call 44; refine (C5.out _ (HI.out.later (B0.out.later (After.trans (After.drew (After.refl _)) hSw)).2.2.2.2)).mono ?_; rintro e wc ⟨rfl, hbc⟩; exact hK.out _ hbc)
        try simp only [Act.put, List.getElem_toArray, List.getElem_cons_succ, List.getElem_cons_zero, List.setIfInBounds_toArray, List.set_cons_zero, List.set_cons_succ]
        refine Script.load (i := 22) (v := ?_) rfl (by kernel_rfl) (by kernel_rfl) (fun _ _ _ h => h) (by kernel_rfl) ?_ ?_
        rotate_left
        · (intro wS hSw; obtain ⟨c0, c1, c2, -, -⟩ := B0.out.later (After.trans (After.drew (After.refl _)) hSw); go_simp; try with_reducible rfl)
        try simp only [Act.put, List.getElem_toArray, List.getElem_cons_succ, List.getElem_cons_zero, List.setIfInBounds_toArray, List.set_cons_zero, List.set_cons_succ]
        refine Script.load (i := 23) (v := ?_) rfl (by kernel_rfl) (by kernel_rfl) (fun _ _ _ h => h) (by kernel_rfl) ?_ ?_
        rotate_left
        · (intro wS hSw; obtain ⟨c0, c1, c2, -, -⟩ := B0.out.later (After.trans (After.drew (After.refl _)) hSw); go_simp; try with_reducible rfl)
        try simp only [Act.put, List.getElem_toArray, List.getElem_cons_succ, List.getElem_cons_zero, List.setIfInBounds_toArray, List.set_cons_zero, List.set_cons_succ]
        refine Script.load (i := 24) (v := ?_) rfl (by kernel_rfl) (by kernel_rfl) (fun _ _ _ h => h) (by kernel_rfl) ?_ ?_
        rotate_left
        · (intro wS hSw; obtain ⟨c0, c1, c2, -, -⟩ := B0.out.later (After.trans (After.drew (After.refl _)) hSw); go_simp; try with_reducible rfl)
        try simp only [Act.put, List.getElem_toArray, List.getElem_cons_succ, List.getElem_cons_zero, List.setIfInBounds_toArray, List.set_cons_zero, List.set_cons_succ]
        refine Script.done (by kernel_rfl) ?_
        intro wD hD hG
        have B1 := Lib.hid (B0.out.later (After.trans (After.drew (After.refl _)) hD))
        clear hD hG B0
        go_wp2_with fail
        go_ret
        exact QB.of (by rw [hy]; rfl) B1.out.2.2.2.2
end Go.Proofs.YtllfgdcplbfdhaaGreat

namespace Go.Proofs.YtllfgdcplbfdhaaGreat
open Go.RowKit
set_option linter.unusedVariables false
set_option linter.unusedSimpArgs false
end Go.Proofs.YtllfgdcplbfdhaaGreat

namespace Go.Proofs.YtllfgdcplbfdhaaGreat
open Go.RowKit Go.Shelf
set_option linter.unusedVariables false
set_option linter.unusedSimpArgs false
attribute [local go_sem] Oper.semAt_some
/-- The list of round j, in memory laid from B on. -/
def HandU (W H Z : Int) (B j : Nat) (v : Value) (W' : World) : Prop := W'.ownsRow B 3 1 v (tryL W H Z j).length (iv (tryL W H Z j))
theorem handU_from {W H Z : Int} {B j : Nat} {v : Value} : OwnFrom B (fun (_ : Unit) W' => HandU W H Z B j v W') := by
  rintro s X Y row hr hg hrow
  refine World.ownsRow.kept hr hg ?_
  rcases hr.2 with ⟨rfl, _⟩ | ⟨g, cap, cur, rfl, _, hgb, _⟩
  · exact .inl rfl
  · refine .inr fun e' => ?_
    obtain ⟨-, o, ho, hc⟩ := hrow g (by simpa [Value.ownBlock] using e'.symm)
    rw [hgb] at ho; cases ho; cases hc
set_option maxRecDepth 100000 in
set_option maxHeartbeats 2000000 in
theorem implTries (W H Z : Int) (n g : Nat) (w : World) (hlt : g < w.heap.size) (hc0 : w.cell? ⟨g, 0, none⟩ = some (.int .i64 W)) (hc1 : w.cell? ⟨g, 1, none⟩ = some (.int .i64 H)) (hc2 : w.cell? ⟨g, 2, none⟩ = some (.int .i64 Z)) :
    SeqHands Fence.wide n Tryz.prog 80 #[.pointer (some ⟨g, 0, none⟩)] (HandU W H Z w.heap.size) 17 w := by
  intro l J Jx W' hW hJ hJx hY h0
  refine callsIn_of_wp Tryz.func80 rfl trivial ?_ rfl
  simp only [Tryz.ntmps80, List.size_toArray, List.length_cons, List.length_nil, Nat.reduceAdd, Nat.reduceSub, Array.replicate_succ, Array.replicate_zero, List.push_toArray, List.append_toArray, List.nil_append, List.cons_append]
  gi_wp2
  gi_loopw [6] (fun i wr => ∃ k : Nat, k ≤ 3 ∧ i = .int .i64 k ∧ J (k + 0) wr ∧ Below w.heap.size w wr) (fun i _ => 3 - (intOf i).toNat)
  case atStart => exact ⟨0, Nat.zero_le _, rfl, h0, hW⟩
  case round =>
    obtain ⟨k, hk, rfl, hJk, hnx⟩ := hrel
    have c0 := (hnx.cell hlt).trans hc0
    have c1 := (hnx.cell hlt).trans hc1
    have c2 := (hnx.cell hlt).trans hc2
    by_cases hlk : k < 3
    · have k1 : (k : Int) < 3 := by omega
      have k0 : (0 : Int) ≤ k := by omega
      gi_wp2
      refine ⟨trivial, (fun h => (by cases h)), ?_⟩
      refine (callsIn_wide.2 (implClassW W H Z k _)).mono ?_
      rintro e w5 ⟨v, rfl, hown, hb5⟩
      obtain ⟨fn, tmps, assign, body, hy, hR⟩ := hY (k + 0) v w5 (by omega) (hJ _ _ _ hJk hb5) (by unfold HandU; rw [Nat.add_zero, tryL_cls hlk]; exact own_base hown hnx.size)
      have hn5 := hnx.trans (hb5.mono hnx.size)
      clear hown hb5 c0 c1 c2 hnx hJk
      gi_wp2
      refine ⟨(fun h => (by cases h)), hR.mono ?_⟩
      rintro e W3 (⟨rfl, hJ3, hk3⟩ | ⟨rfl, hJx3⟩)
      · gi_wp2
        go_roundw
        case rel => exact ⟨k + 1, by omega, by go_num, by rw [show k + 1 + 0 = k + 0 + 1 by omega]; exact hJ3, hn5.trans hk3⟩
        case measure => simp [intOf]; omega
      · gi_wp2
        refine bodyPost_ret (results_none rfl _ _ _) rfl ?_
        exact ⟨⟨_, rfl⟩, .inr hJx3⟩
    · obtain rfl : k = 3 := by omega
      clear c0 c1 c2
      gi_wp2
      rw [show ((3 : Nat) : Int) = 3 from rfl]
      gi_loopw [16] (fun i wr => ∃ k : Nat, k ≤ 7 ∧ i = .int .i64 k ∧ J (k + 3) wr ∧ Below w.heap.size w wr) (fun i _ => 7 - (intOf i).toNat)
      case atStart => exact ⟨0, Nat.zero_le _, rfl, hJk, hnx⟩
      case round =>
        obtain ⟨k, hk, rfl, hJk, hnx⟩ := hrel
        have c0 := (hnx.cell hlt).trans hc0
        have c1 := (hnx.cell hlt).trans hc1
        have c2 := (hnx.cell hlt).trans hc2
        by_cases hlk : k < 7
        · have k1 : (k : Int) < 7 := by omega
          have k0 : (0 : Int) ≤ k := by omega
          gi_wp2
          refine ⟨trivial, (fun h => (by cases h)), ?_⟩
          refine (callsIn_wide.2 (implColumnW W H Z k _)).mono ?_
          rintro e w5 ⟨v, rfl, hown, hb5⟩
          obtain ⟨fn, tmps, assign, body, hy, hR⟩ := hY (k + 3) v w5 (by omega) (hJ _ _ _ hJk hb5) (by unfold HandU; rw [tryL_col hlk]; exact own_base hown hnx.size)
          have hn5 := hnx.trans (hb5.mono hnx.size)
          clear hown hb5 c0 c1 c2 hnx hJk
          gi_wp2
          refine ⟨(fun h => (by cases h)), hR.mono ?_⟩
          rintro e W3 (⟨rfl, hJ3, hk3⟩ | ⟨rfl, hJx3⟩)
          · gi_wp2
            go_roundw
            case rel => exact ⟨k + 1, by omega, by go_num, by rw [show k + 1 + 3 = k + 3 + 1 by omega]; exact hJ3, hn5.trans hk3⟩
            case measure => simp [intOf]; omega
          · gi_wp2
            refine bodyPost_ret (results_none rfl _ _ _) rfl ?_
            exact ⟨⟨_, rfl⟩, .inr hJx3⟩
        · obtain rfl : k = 7 := by omega
          clear c0 c1 c2
          gi_wp2
          rw [show ((7 : Nat) : Int) = 7 from rfl]
          gi_loopw [26] (fun i wr => ∃ k : Nat, k ≤ 7 ∧ i = .int .i64 k ∧ J (k + 10) wr ∧ Below w.heap.size w wr) (fun i _ => 7 - (intOf i).toNat)
          case atStart => exact ⟨0, Nat.zero_le _, rfl, hJk, hnx⟩
          case round =>
            obtain ⟨k, hk, rfl, hJk, hnx⟩ := hrel
            have c0 := (hnx.cell hlt).trans hc0
            have c1 := (hnx.cell hlt).trans hc1
            have c2 := (hnx.cell hlt).trans hc2
            by_cases hlk : k < 7
            · have k1 : (k : Int) < 7 := by omega
              have k0 : (0 : Int) ≤ k := by omega
              gi_wp2
              refine ⟨trivial, (fun h => (by cases h)), ?_⟩
              refine (callsIn_wide.2 (implRowW W H Z k _)).mono ?_
              rintro e w5 ⟨v, rfl, hown, hb5⟩
              obtain ⟨fn, tmps, assign, body, hy, hR⟩ := hY (k + 10) v w5 (by omega) (hJ _ _ _ hJk hb5) (by unfold HandU; rw [tryL_row hlk]; exact own_base hown hnx.size)
              have hn5 := hnx.trans (hb5.mono hnx.size)
              clear hown hb5 c0 c1 c2 hnx hJk
              gi_wp2
              refine ⟨(fun h => (by cases h)), hR.mono ?_⟩
              rintro e W3 (⟨rfl, hJ3, hk3⟩ | ⟨rfl, hJx3⟩)
              · gi_wp2
                go_roundw
                case rel => exact ⟨k + 1, by omega, by go_num, by rw [show k + 1 + 10 = k + 10 + 1 by omega]; exact hJ3, hn5.trans hk3⟩
                case measure => simp [intOf]; omega
              · gi_wp2
                refine bodyPost_ret (results_none rfl _ _ _) rfl ?_
                exact ⟨⟨_, rfl⟩, .inr hJx3⟩
            · obtain rfl : k = 7 := by omega
              clear c0 c1 c2
              gi_wp2
              go_end0
              exact ⟨⟨_, rfl⟩, .inl hJk⟩
set_option maxRecDepth 100000 in
set_option maxHeartbeats 2000000 in
theorem implToTry (W H Z : Int) (w : World) : Calls Tryz.prog 39 #[.agg #[.int .i64 W, .int .i64 H, .int .i64 Z]] w fun e w' => e = .returned (.func (.func 80) #[] #[.pointer (some ⟨w.heap.size, 0, none⟩)]) ∧ Box w.heap.size W H Z w w' := by
  go_enter Tryz.func39, Tryz.ntmps39
  go_wp2_with fail
  go_ret
  exact ⟨rfl, box_new W H Z w⟩
/-- The boxes of FindProof: the board, the two positions, the two results. -/
structure FindBox (s : Nat) (W H Z P G : Int) (v b : Value) (w0 w : World) : Prop where
  box : Box s W H Z w0 w
  p : w.cell? ⟨s + 1, 0, none⟩ = some (.int .i64 P)
  g : w.cell? ⟨s + 1 + 1, 0, none⟩ = some (.int .i64 G)
  list : w.heap[s + 1 + 1 + 1]? = some (.cells #[v] 30 (0, 0))
  ok : w.heap[s + 1 + 1 + 1 + 1]? = some (.cells #[b] 4 (0, 0))
theorem FindBox.lt {s : Nat} {W H Z P G : Int} {v b : Value} {w0 w : World} (h : FindBox s W H Z P G v b w0 w) : s + 1 + 1 + 1 + 1 < w.heap.size := (Array.getElem?_eq_some_iff.1 h.ok).1
theorem FindBox.grown {s : Nat} {W H Z P G : Int} {v b : Value} {w0 w w' : World} {B : Nat} (h : FindBox s W H Z P G v b w0 w) (hs : w0.heap.size ≤ s) (hB : s + 1 + 1 + 1 + 1 < B) (hb : Below B w w') : FindBox s W H Z P G v b w0 w' :=
  ⟨h.box.kept hb (by omega) (by omega), (hb.cell (p := ⟨s + 1, 0, none⟩) (show s + 1 < _ by omega)).trans h.p, (hb.cell (p := ⟨s + 1 + 1, 0, none⟩) (show s + 1 + 1 < _ by omega)).trans h.g, (hb.block _ (by omega)).trans h.list, (hb.block _ hB).trans h.ok⟩
theorem find_new (W H Z P G : Int) (w : World) : FindBox w.heap.size W H Z P G (.slice none 0 0) (.bool false) w (((((w.alloc (.cells #[.int .i64 W, .int .i64 H, .int .i64 Z] 25)).alloc (.cells #[.int .i64 P] 3)).alloc (.cells #[.int .i64 G] 3)).alloc (.cells #[.slice none 0 0] 30)).alloc (.cells #[.bool false] 4)) := by
  have B := box_new W H Z w
  have s1 : (w.alloc (.cells #[.int .i64 W, .int .i64 H, .int .i64 Z] 25)).heap.size = w.heap.size + 1 := by simp
  generalize w.alloc (.cells #[.int .i64 W, .int .i64 H, .int .i64 Z] 25) = w1 at *
  have n2 := heap_alloc_new w1 (.cells #[.int .i64 P] 3)
  have b2 := (Below.refl _ w1).alloc (Nat.le_refl _) (.cells #[.int .i64 P] 3)
  have s2 : (w1.alloc (.cells #[.int .i64 P] 3)).heap.size = w.heap.size + 1 + 1 := by simp [s1]
  rw [s1] at n2
  generalize w1.alloc (.cells #[.int .i64 P] 3) = w2 at *
  have n3 := heap_alloc_new w2 (.cells #[.int .i64 G] 3)
  have b3 := (Below.refl _ w2).alloc (Nat.le_refl _) (.cells #[.int .i64 G] 3)
  have s3 : (w2.alloc (.cells #[.int .i64 G] 3)).heap.size = w.heap.size + 1 + 1 + 1 := by simp [s2]
  rw [s2] at n3
  generalize w2.alloc (.cells #[.int .i64 G] 3) = w3 at *
  have n4 := heap_alloc_new w3 (.cells #[.slice none 0 0] 30)
  have b4 := (Below.refl _ w3).alloc (Nat.le_refl _) (.cells #[.slice none 0 0] 30)
  have s4 : (w3.alloc (.cells #[.slice none 0 0] 30)).heap.size = w.heap.size + 1 + 1 + 1 + 1 := by simp [s3]
  rw [s3] at n4
  generalize w3.alloc (.cells #[.slice none 0 0] 30) = w4 at *
  have n5 := heap_alloc_new w4 (.cells #[.bool false] 4)
  have b5 := (Below.refl _ w4).alloc (Nat.le_refl _) (.cells #[.bool false] 4)
  rw [s4] at n5
  generalize w4.alloc (.cells #[.bool false] 4) = w5 at *
  have h2 := (b3.block _ (by omega)).trans n2
  have h2 := (b4.block _ (by omega)).trans h2
  have h2 := (b5.block _ (by omega)).trans h2
  have h3 := (b4.block _ (by omega)).trans n3
  have h3 := (b5.block _ (by omega)).trans h3
  have h4 := (b5.block _ (by omega)).trans n4
  exact ⟨(((B.later b2).later b3).later b4).later b5, by rw [cell_of_row _ _ _ _ _ _ h2]; rfl, by rw [cell_of_row _ _ _ _ _ _ h3]; rfl, h4, n5⟩
theorem own_from {B C n : Nat} {v : Value} {xs : List Value} {X Y : World} {row : Option Nat} (hr : X.ownsRow C 3 1 v n xs) (hg : X.grownBy Y row) (hrow : ∀ r, row = some r → B ≤ r ∧ ∃ o : Obj, X.heap[r]? = some o ∧ o.isCells = false) : Y.ownsRow C 3 1 v n xs := by
  refine World.ownsRow.kept hr hg ?_
  rcases hr.2 with ⟨rfl, _⟩ | ⟨g, cap, cur, rfl, _, hgb, _⟩
  · exact .inl rfl
  · refine .inr fun e' => ?_
    obtain ⟨-, o, ho, hc⟩ := hrow g (by simpa [Value.ownBlock] using e'.symm)
    rw [hgb] at ho; cases ho; cases hc
theorem own_set {B n b : Nat} {v u : Value} {xs : List Value} {X : World} (hr : X.ownsRow B 3 1 v n xs) (hb : b < B) : (X.setCell ⟨b, 0, none⟩ u).ownsRow B 3 1 v n xs := by
  refine World.ownsRow.kept hr (grownBy_setCell' X b u) ?_
  rcases hr.2 with ⟨rfl, _⟩ | ⟨g, cap, cur, rfl, hg, _⟩
  · exact .inl rfl
  · refine .inr fun e' => ?_
    obtain rfl : g = b := by simpa [Value.ownBlock] using e'
    omega
/-- What holds when a round has returned: the two results lie in their boxes. -/
def FindEnd (W H Z P G : Int) (w W' : World) : Prop := ∃ (j : Nat) (v : Value), j < 17 ∧ (∀ i, i < j → proofB W H Z (tryL W H Z i) P G = false) ∧ proofB W H Z (tryL W H Z j) P G = true ∧
  W'.ownsRow w.heap.size 3 1 v (tryL W H Z j).length (iv (tryL W H Z j)) ∧ W'.cell? ⟨w.heap.size + 1 + 1 + 1, 0, none⟩ = some v ∧ W'.cell? ⟨w.heap.size + 1 + 1 + 1 + 1, 0, none⟩ = some (.bool true) ∧ Below w.heap.size w W'
theorem findEnd_from {W H Z P G : Int} {w : World} {B : Nat} (hB : w.heap.size ≤ B) : OwnFrom B (fun (_ : Unit) W' => FindEnd W H Z P G w W') := by
  rintro s X Y row ⟨j, v, h1, h2, h3, h4, h5, h6, h7⟩ hg hrow
  exact ⟨j, v, h1, h2, h3, own_from h4 hg hrow, cell_kept h5 hg (fun r e => (hrow r e).2), cell_kept h6 hg (fun r e => (hrow r e).2), ownFrom_below (β := Unit) (Nat.le_refl _) hB () X Y row h7 hg hrow⟩
set_option maxRecDepth 100000 in
set_option maxHeartbeats 2000000 in
theorem implFind (W H Z P G : Int) (hP : P ≤ 9223372036854775807) (hG : G ≤ 9223372036854775807) (w : World) :
    Calls Tryz.prog 9 #[.agg #[.int .i64 W, .int .i64 H, .int .i64 Z], .int .i64 P, .int .i64 G] w (OwnIvB (findB W H Z P G) w) := by
  have C1 := Lib.hid (fun (xs : List Int) (a : Option Addr) (n c : Nat) (w : World) (hn : n ≤ 1048576) (hi : IntsAt w a n xs) => implProof W H Z P G hP hG (c := c) w hn hi)
  have HNo := Lib.hid (first_no (W := W) (H := H) (Z := Z) (P := P) (G := G))
  have HAt := Lib.hid (fun j (hj : j < 17) => first_at (W := W) (H := H) (Z := Z) (P := P) (G := G) hj)
  generalize findB W H Z P G = r at *
  refine (callsIn_wide (n := 9)).1 ?_
  refine callsIn_of_wp_marks Tryz.func9 rfl trivial ?_ rfl
  simp only [Tryz.ntmps9, List.size_toArray, List.length_cons, List.length_nil, Nat.reduceAdd, Nat.reduceSub, Array.replicate_succ, Array.replicate_zero, List.push_toArray, List.append_toArray, List.nil_append, List.cons_append]
  have F0 := Lib.hid (find_new W H Z P G w)
  gi_wp2
  refine ⟨trivial, ?_⟩
  generalize ((((w.alloc (.cells #[.int .i64 W, .int .i64 H, .int .i64 Z] 25)).alloc (.cells #[.int .i64 P] 3)).alloc (.cells #[.int .i64 G] 3)).alloc (.cells #[.slice none 0 0] 30)).alloc (.cells #[.bool false] 4) = W1 at *
  refine (callsIn_wide.2 (implToTry W H Z _)).mono ?_
  rintro e w2 ⟨rfl, hB2⟩
  have F2 := Lib.hid (F0.out.grown (Nat.le_refl _) F0.out.lt hB2.2.2.2.2)
  have hlt2 := hB2.2.2.2.1
  have hsz := F0.out.lt
  generalize W1.heap.size = q at *
  gi_wp2
  obtain ⟨b0, b1, b2, -, hbw⟩ := hB2
  have h5 : w.heap.size + 1 + 1 + 1 + 1 < w2.heap.size := F2.out.lt
  refine wpIn_hands rfl (by omega) (gf := 80) (lb := #[.pointer (some ⟨q, 0, none⟩)]) rfl trivial (enters_of Tryz.func80 (by kernel_rfl) rfl)
    (implTries W H Z _ q w2 hlt2 b0 b1 b2) (fun _ _ => handU_from) rfl
    (fun j W' => (∀ i, i < j → proofB W H Z (tryL W H Z i) P G = false) ∧ Below w2.heap.size w2 W')
    (FindEnd W H Z P G w)
    (fun s A B row hs hg hr => ⟨hs.1, ownFrom_below (β := Unit) (Nat.le_refl _) (Nat.le_refl _) () A B row hs.2 hg hr⟩)
    (findEnd_from (by omega))
    ⟨fun i hi => absurd hi (Nat.not_lt_zero _), Below.refl _ _⟩
    (fun v => { tmps := #[.agg #[.int .i64 W, .int .i64 H, .int .i64 Z], .int .i64 P, .int .i64 G, .pointer (some ⟨w.heap.size, 0, none⟩), .pointer (some ⟨w.heap.size + 1, 0, none⟩), .pointer (some ⟨w.heap.size + 1 + 1, 0, none⟩), .pointer (some ⟨w.heap.size + 1 + 1 + 1, 0, none⟩), .pointer (some ⟨w.heap.size + 1 + 1 + 1 + 1, 0, none⟩), v, .agg #[.int .i64 W, .int .i64 H, .int .i64 Z], .func (.func 80) #[] #[.pointer (some ⟨q, 0, none⟩)], v, undef, undef, undef, undef, undef, undef], defers := [] }) ?assign ?body ?done ?stop
  case assign =>
    intro l v W' K hK
    gi_wp2
    exact hK
  case body =>
    rintro l j v W' hj ⟨hno, hbl⟩ hu hsz
    obtain ⟨ga, gc, rfl⟩ := int_form hu
    have HI := ints_own hu rfl
    have F3 := F2.out.grown (Nat.le_refl _) h5 hbl
    have CW := C1.out (tryL W H Z j) ga _ gc W' (by have := tryL_le W H Z j; omega) HI
    obtain ⟨⟨c0, c1, c2, -, hbw3⟩, cp, cg, cl, co⟩ := F3
    have hsl := Boxed.lt cl
    have hso := Boxed.lt co
    cases hpr : proofB W H Z (tryL W H Z j) P G
    · rw [hpr] at CW
      gi_wp2
      refine ⟨trivial, ?_⟩
      refine (CallsIn.inRound l (callsIn_wide.2 CW)).mono ?_
      rintro e w5 ⟨rfl, hb5⟩
      gi_wp2
      exact ⟨Stays.of_below hb5, hb5.mono hsz, fun i hi => by
        by_cases e : i = j
        · subst e; exact hpr
        · exact hno i (by omega), hbl.trans (hb5.mono hsz)⟩
    · rw [hpr] at CW
      gi_wp2
      refine ⟨trivial, ?_⟩
      refine (CallsIn.inRound l (callsIn_wide.2 CW)).mono ?_
      rintro e w5 ⟨rfl, hb5⟩
      have cl5 := (hb5.block _ hsl).trans cl
      have co5 := (hb5.block _ hso).trans co
      have l0 := Boxed.cell cl5
      have l1 := Boxed.frozen cl5
      have o0 := Boxed.cell co5
      have o1 := Boxed.frozen co5
      have HE : Hid (∀ W9, W9 = (w5.setCell ⟨w.heap.size + 1 + 1 + 1, 0, none⟩ (.slice ga (tryL W H Z j).length gc)).setCell ⟨w.heap.size + 1 + 1 + 1 + 1, 0, none⟩ (.bool true) → Stays w2.heap.size W' W9 ∧ FindEnd W H Z P G w W9) := by
        rintro W9 rfl
        have hb4 := Boxed.set (.slice ga (tryL W H Z j).length gc) cl5
        have ho4 := Boxed.other co5 (show w.heap.size + 1 + 1 + 1 + 1 ≠ w.heap.size + 1 + 1 + 1 by omega) (.slice ga (tryL W H Z j).length gc)
        refine ⟨⟨by simp; exact hb5.size, fun k hk hlt => (Below.heap_setCell _ _ _ k (show k ≠ w.heap.size + 1 + 1 + 1 + 1 by omega)).trans ((Below.heap_setCell _ _ _ k (show k ≠ w.heap.size + 1 + 1 + 1 by omega)).trans (hb5.block k hlt))⟩, j, _, hj, hno, hpr, own_base (own_set (own_set (own_below hu hb5) (by omega)) (by omega)) (by omega), Boxed.cell (Boxed.other hb4 (show w.heap.size + 1 + 1 + 1 ≠ w.heap.size + 1 + 1 + 1 + 1 by omega) _), Boxed.cell (Boxed.set _ ho4), set_below (set_below (hbw3.trans (hb5.mono hbw3.size)) (by omega)) (by omega)⟩
      clear hu HI
      gi_wp2
      exact HE.out _ rfl
  case done =>
    rintro D W' hD ⟨hno, hbl⟩ hK
    have F3 := F2.out.grown (Nat.le_refl _) h5 hbl
    obtain ⟨⟨c0, c1, c2, -, hbw3⟩, cp, cg, cl, co⟩ := F3
    have l0 := Boxed.cell cl
    have l1 := Boxed.frozen cl
    have o0 := Boxed.cell co
    have o1 := Boxed.frozen co
    have HE : Hid (∀ W9, W9 = (W'.setCell ⟨w.heap.size + 1 + 1 + 1, 0, none⟩ (.slice none 0 0)).setCell ⟨w.heap.size + 1 + 1 + 1 + 1, 0, none⟩ (.bool false) → W9.cell? ⟨w.heap.size + 1 + 1 + 1, 0, none⟩ = some (.slice none 0 0) ∧ W9.cell? ⟨w.heap.size + 1 + 1 + 1 + 1, 0, none⟩ = some (.bool false) ∧ W9.heap[D]? = some (.deferred (some [])) ∧ Below w.heap.size w W9) := by
      rintro W9 rfl
      have hb4 := Boxed.set (.slice none 0 0) cl
      have ho4 := Boxed.other co (show w.heap.size + 1 + 1 + 1 + 1 ≠ w.heap.size + 1 + 1 + 1 by omega) (.slice none 0 0)
      exact ⟨Boxed.cell (Boxed.other hb4 (show w.heap.size + 1 + 1 + 1 ≠ w.heap.size + 1 + 1 + 1 + 1 by omega) _), Boxed.cell (Boxed.set _ ho4), (Below.heap_setCell _ _ _ D (show D ≠ w.heap.size + 1 + 1 + 1 + 1 by omega)).trans ((Below.heap_setCell _ _ _ D (show D ≠ w.heap.size + 1 + 1 + 1 by omega)).trans hK), set_below (set_below hbw3 (by omega)) (by omega)⟩
    gi_wp2
    obtain ⟨l9, o9, hK9, hb9⟩ := HE.out _ rfl
    generalize (W'.setCell ⟨w.heap.size + 1 + 1 + 1, 0, none⟩ (.slice none 0 0)).setCell ⟨w.heap.size + 1 + 1 + 1 + 1, 0, none⟩ (.bool false) = W9 at *
    have l10 := cell_kept l9 (grownBy_putObj' _ D (.deferred none)) (fun r e => by cases e; exact ⟨_, hK9, rfl⟩)
    have o10 := cell_kept o9 (grownBy_putObj' _ D (.deferred none)) (fun r e => by cases e; exact ⟨_, hK9, rfl⟩)
    refine ⟨by simp, .inl ⟨_, _, rfl, run_takeDeferred hK9, ?_⟩⟩
    refine ⟨.tuple #[.slice none 0 0, .bool false], by simp [results, Tryz.results9, go_sem, l10, o10], ?_⟩
    rw [HNo.out hno]
    exact ⟨_, rfl, World.ownsRow_nil _ _ _ _, hb9.trans (below_put _ _ (by omega) hK9)⟩
  case stop =>
    rintro D W' hD ⟨j, v, h1, h2, h3, h4, e5, e6, h7⟩ hK
    gi_wp2
    have l10 := cell_kept e5 (grownBy_putObj' _ D (.deferred none)) (fun r e => by cases e; exact ⟨_, hK, rfl⟩)
    have o10 := cell_kept e6 (grownBy_putObj' _ D (.deferred none)) (fun r e => by cases e; exact ⟨_, hK, rfl⟩)
    refine ⟨by simp, .inl ⟨_, _, rfl, run_takeDeferred hK, ?_⟩⟩
    refine ⟨.tuple #[v, .bool true], by simp [results, Tryz.results9, go_sem, l10, o10], ?_⟩
    rw [HAt.out j h1 h2 h3]
    exact ⟨_, rfl, ownsRow_putObj h4 _ hK rfl, h7.trans (below_put _ _ (by omega) hK)⟩
end Go.Proofs.YtllfgdcplbfdhaaGreat

namespace Go.Proofs.YtllfgdcplbfdhaaGreat
open Go.RowKit
set_option linter.unusedVariables false
set_option linter.unusedSimpArgs false
/-- A list of ints and a bool, by name. -/
theorem ivb_post {f : FuncId} {args : Array Value} {w : World} {r : List Int × Bool} {xs : List Int} {y : Bool} (h : Calls Tryz.prog f args w (OwnIvB r w)) (hr : r = (xs, y)) :
    Calls Tryz.prog f args w fun e w' => ∃ v, e = .returned (.tuple #[v, .bool y]) ∧ w'.ownsRow w.heap.size 3 1 v xs.length (iv xs) ∧ Below w.heap.size w w' := by subst hr; exact h
end Go.Proofs.YtllfgdcplbfdhaaGreat
