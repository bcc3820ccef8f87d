/- A range over a function whose rounds are handed one value each, of which something is known in the world in which it is handed over (a list in new memory). Of no program. -/
import Derived.RangeFuncNested
import Derived.RangeFuncBound
import Derived.RangeFuncCalls
import Derived.RangeFuncLeaves
import Derived.Shelf.Abstract
import Derived.Shelf.RegionOpen
import Derived.WalkKit
import Derived.OwnWalkIn
import Derived.TacticsInMore
import Derived.LoopNIn
import Derived.LoopIn
import Derived.Below
namespace Go.Proofs.Ytkaabjklfhoooaa
open Go.RowKit
/-- What a round leaves alone: each block from B on that lay when it began. -/
def Stays (B : Nat) (W W' : World) : Prop := W.heap.size ≤ W'.heap.size ∧ ∀ k, B ≤ k → k < W.heap.size → W'.heap[k]? = W.heap[k]?
theorem Stays.of_below {B : Nat} {W W' : World} (h : Below W.heap.size W W') : Stays B W W' := ⟨h.size, fun k _ hk => h.block k hk⟩
theorem Stays.obj {B k : Nat} {W W' : World} {o : Obj} (h : Stays B W W') (hB : B ≤ k) (ho : W.heap[k]? = some o) : W'.heap[k]? = some o := (h.2 k hB (Array.getElem?_eq_some_iff.1 ho).1).trans ho
/-- How a round's body may be left: it goes on, or it returns from the function around it. -/
def seqPost (B : Nat) (I : Nat → World → Prop) (Ix : World → Prop) (j : Nat) (W : World) : Exit → Act → World → Prop
  | .normal, _, W' => Stays B W W' ∧ Below B W W' ∧ I (j + 1) W'
  | .ret, _, W' => Stays B W W' ∧ Ix W'
  | _, _, _ => False
/-- What an iterator of N rounds promises: 'U j v W': what is told of the value v of round j. -/
def SeqHands (F : Fence) (n : Nat) (P : Program) (g : Nat) (lb : Array Value) (U : Nat → Value → World → Prop) (N : Nat) (w : World) : Prop :=
  ∀ (l : Nat) (J : Nat → World → Prop) (Jx : World → Prop) (W : World), Below w.heap.size w W → (∀ j A C, J j A → Below A.heap.size A C → J j C) → (∀ A C, Jx A → Below A.heap.size A C → Jx C) →
    (∀ j v W1, j < N → J j W1 → U j v W1 → YieldAt F (n - 1) P l #[v] W1 fun e W' => (e = .returned (.bool true) ∧ J (j + 1) W' ∧ Below w.heap.size W1 W') ∨ (e = .returned (.bool false) ∧ Jx W')) →
    J 0 W → CallsIn F n P g (#[.func (.yield l) #[] #[]] ++ lb) W fun e W' => (∃ v, e = .returned v) ∧ (J N W' ∨ Jx W')
theorem below_put {B : Nat} {W : World} {l : Nat} (o o' : Obj) (hB : B ≤ l) (h : W.heap[l]? = some o) : Below B W (W.putObj l o') :=
  (Below.refl B W).grown (grownBy_putObj' W l o') (by have := (Array.getElem?_eq_some_iff.1 h).1; omega) (fun k e => by cases e; exact hB)
theorem grows {W W' : World} (h : Below W.heap.size W W') : W.grownBy W' none := ⟨h.os, h.tape, h.output, h.size, fun j hj _ => h.block j hj⟩
variable {F : Fence} {n : Nat} {P : Program}
/-- The statement 'for v := range g { .. }', its iterator by what it promises. -/
theorem wpIn_hands {g : Operand} {ps : Array Tmp} {assign body : Code} {Q : Exit → Act → World → Prop} {a : Act} {w : World}
    (hro : F.round = none) (h1 : 1 ≤ n) {gf : Nat} {lb : Array Value} (hg : a.eval g = .func (.func gf) #[] lb) (hFg : F.fn gf) (eg : ∀ args w, (callFunc gf args).run P w = .ok (.enter gf args) w)
    {U : Nat → Value → World → Prop} {N : Nat} (hseq : SeqHands F (n - 1) P gf lb U N w) (hU : ∀ j v, OwnFrom w.heap.size (fun (_ : Unit) W => U j v W)) (hps : ps.size = 1)
    (I : Nat → World → Prop) (Ix : World → Prop) (hI : OwnFrom w.heap.size I) (hIx : OwnFrom w.heap.size (fun (_ : Unit) W => Ix W)) (h0 : I 0 w) (a₁ : Value → Act)
    (hassign : ∀ (l : Nat) (v : Value) (W : World) (K : Act → World → Prop), K (a₁ v) W →
      assign.wpIn (F.inRound l) (n - 1 - 1) P (Exit.then K (fun _ _ _ => False)) { tmps := (ps.zip #[v]).foldl (fun t (p, v) => t.setIfInBounds p v) a.tmps, defers := [] } W)
    (hbody : ∀ (l j : Nat) (v : Value) (W : World), j < N → I j W → U j v W → w.heap.size ≤ W.heap.size → body.wpIn (F.inRound l) (n - 1 - 1) P (seqPost w.heap.size I Ix j W) (a₁ v) W)
    (hdone : ∀ (D : Nat) (W : World), w.heap.size ≤ D → I N W → W.heap[D]? = some (.deferred (some [])) → Q .normal { a with defers := { target := .collected D, args := #[] } :: a.defers } W)
    (hstop : ∀ (D : Nat) (W : World), w.heap.size ≤ D → Ix W → W.heap[D]? = some (.deferred (some [])) → Code.ret.wpIn F n P Q { a with defers := { target := .collected D, args := #[] } :: a.defers } W) :
    (Code.rangeFunc g ps assign body).wpIn F n P Q a w := by
  refine wpIn_rangeFunc ?_
  intro fn hfn
  rw [hro]
  obtain ⟨rc, hrc⟩ : ∃ rc : LoopState → Option Code → Loop, rc = fun st pe => { state := st, pending := pe, fn, tmps := a.tmps, params := ps, assign, body, defers := w.heap.size } := ⟨_, rfl⟩
  obtain ⟨B, hB⟩ : ∃ B, w.heap.size = B := ⟨_, rfl⟩
  obtain ⟨W1, hW1⟩ : ∃ W1, (w.alloc (.deferred (some []))).alloc (.loop (rc .ready none)) = W1 := ⟨_, rfl⟩
  have rec1 : W1.heap[B + 1]? = some (.loop (rc .ready none)) := by
    have := World.alloc_heap_new (w.alloc (.deferred (some []))) (.loop (rc .ready none))
    rwa [World.size_alloc, hW1, hB] at this
  have def1 : W1.heap[B]? = some (.deferred (some [])) := by
    rw [← hW1, ← hB]; exact (Below.heap_alloc _ _ _ (by simp)).trans (World.alloc_heap_new w _)
  have inv1 : I 0 W1 := by rw [← hW1]; exact hI.alloc _ (hI.alloc _ h0)
  have bel1 : Below w.heap.size w W1 := by rw [← hW1]; exact ((Below.refl _ w).alloc (Nat.le_refl _) _).alloc (by simp) _
  have enter1 : (Instr.enterLoop fn a.tmps ps assign body none).run P w = .ok (B + 1, [{ target := .collected B, args := #[] }]) W1 := by
    rw [← hW1, hrc, ← hB]; exact run_enterLoop_outer _ _ _ _ _
  rw [hB] at hI hIx hU
  refine ⟨B + 1, [{ target := .collected B, args := #[] }], W1, { target := .fn (.func gf) lb, args := #[.func (.yield (B + 1)) #[] #[]] }, W1, gf, #[.func (.yield (B + 1)) #[] #[]] ++ lb, W1, enter1, ?_, ?_, ?_, fun _ => h1, ?_⟩
  · simp only [resolve, hg]
    simp [go_sem]
  · intro f' hf'; simp [Target.leads] at hf'; subst hf'; exact hFg
  · simp [invoke, go_sem, eg]
  · refine (hseq (B + 1) (fun j W => I j W ∧ W.heap[B + 1]? = some (.loop (rc .ready none)) ∧ W.heap[B]? = some (.deferred (some [])))
      (fun W => Ix W ∧ W.heap[B + 1]? = some (.loop (rc .done (some .ret))) ∧ W.heap[B]? = some (.deferred (some [])))
      W1 bel1
      (fun j A C h k => ⟨hI j A C none h.1 (grows k) (fun r e => by cases e), (k.block _ (Array.getElem?_eq_some_iff.1 h.2.1).1).trans h.2.1, (k.block _ (Array.getElem?_eq_some_iff.1 h.2.2).1).trans h.2.2⟩)
      (fun A C h k => ⟨hIx () A C none h.1 (grows k) (fun r e => by cases e), (k.block _ (Array.getElem?_eq_some_iff.1 h.2.1).1).trans h.2.1, (k.block _ (Array.getElem?_eq_some_iff.1 h.2.2).1).trans h.2.2⟩)
      ?_ ⟨inv1, rec1, def1⟩).mono ?_
    · rintro j v W hj ⟨hi, hl, hk⟩ hu
      have hlt : B + 1 < W.heap.size := (Array.getElem?_eq_some_iff.1 hl).1
      have hy := run_yield (P := P) (args := #[v]) hl (by rw [hrc]; exact hps.symm)
      rw [hrc] at hy
      refine ⟨fn, _, assign, body, hy, roundIn_of_wpIn hfn (hassign _ v W _ ⟨_, run_beginRound hl (by rw [hrc]), ?_⟩)⟩
      obtain ⟨W2, hW2⟩ : ∃ W2, W.putObj (B + 1) (.loop { rc .ready none with state := .busy }) = W2 := ⟨_, rfl⟩
      have rec2 : W2.heap[B + 1]? = some (.loop { rc .ready none with state := .busy }) := by rw [← hW2]; exact World.putObj_heap_same hlt
      have def2 : W2.heap[B]? = some (.deferred (some [])) := by rw [← hW2]; exact (World.putObj_heap_other (by omega)).trans hk
      have inv2 : I j W2 := by rw [← hW2]; exact hI.putObj _ hi (by omega) hl rfl
      have u2 : U j v W2 := by rw [← hW2]; exact (hU j v).putObj (s := ()) _ hu (by omega) hl rfl
      have bel2 : Below B W W2 := by rw [← hW2]; exact below_put _ _ (by omega) hl
      rw [hW2]
      have size2 : w.heap.size ≤ W2.heap.size := by rw [hB]; have := (Array.getElem?_eq_some_iff.1 rec2).1; omega
      refine wpIn_mono (hbody _ j v W2 hj inv2 u2 size2) ?_
      rw [hB]
      rintro e a3 W3 hp
      cases e with
      | normal =>
        obtain ⟨hs, hb3, hi3⟩ := hp
        have rec3 := hs.obj (Nat.le_succ B) rec2
        have def3 := hs.obj (Nat.le_refl B) def2
        have hend := run_endRound (P := P) none rec3
        rw [hrc] at hend rec3
        refine ⟨_, _, hend, .inl ⟨rfl, ⟨hI.putObj _ hi3 (by omega) rec3 rfl, ?_, (World.putObj_heap_other (by omega)).trans def3⟩, (bel2.trans hb3).trans (below_put _ _ (by omega) rec3)⟩⟩
        rw [hrc]
        exact World.putObj_heap_same (Array.getElem?_eq_some_iff.1 rec3).1
      | ret =>
        obtain ⟨hs, hi3⟩ := hp
        have rec3 := hs.obj (Nat.le_succ B) rec2
        have def3 := hs.obj (Nat.le_refl B) def2
        have hend := run_endRound (P := P) (some .ret) rec3
        rw [hrc] at hend rec3
        refine ⟨_, _, hend, .inr ⟨rfl, hIx.putObj (s := ()) _ hi3 (by omega) rec3 rfl, ?_, (World.putObj_heap_other (by omega)).trans def3⟩⟩
        rw [hrc]
        exact World.putObj_heap_same (Array.getElem?_eq_some_iff.1 rec3).1
      | exit id => exact hp.elim
      | goto t => exact hp.elim
      | panic ch => exact hp.elim
      | outgrown => exact hp.elim
    · rintro e W2 ⟨⟨v, rfl⟩, (⟨hi, hl, hk⟩ | ⟨hi, hl, hk⟩)⟩
      · have hend := run_endLoop (P := P) hl (by rw [hrc]; simp)
        rw [hrc] at hend hl
        exact ⟨none, _, hend, hdone B _ (Nat.le_of_eq hB) (hI.putObj _ hi (by omega) hl rfl) ((World.putObj_heap_other (by omega)).trans hk)⟩
      · have hend := run_endLoop (P := P) hl (by rw [hrc]; simp)
        rw [hrc] at hend hl
        exact ⟨some .ret, _, hend, hstop B _ (Nat.le_of_eq hB) (hIx.putObj (s := ()) _ hi (by omega) hl rfl) ((World.putObj_heap_other (by omega)).trans hk)⟩
end Go.Proofs.Ytkaabjklfhoooaa
