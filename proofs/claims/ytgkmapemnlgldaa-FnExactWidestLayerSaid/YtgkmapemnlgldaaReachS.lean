/- The search of the program: reachedFrom, for every small board and every position of it: a queue that is a channel of the call's own. -/
import Derived.Test.YtgkmapemnlgldaaReachB
import Derived.Test.YtgkmapemnlgldaaReachC
import Derived.Test.YtgkmapemnlgldaaChan
import Derived.Test.YtgkmapemnlgldaaPartMath
import Derived.Deep.LoopGhost
namespace Go.Proofs.Ytgkmapemnlgldaa
open Go.RowKit Go.Conc
set_option linter.unusedVariables false
set_option linter.unusedSimpArgs false
/-- The state of the search: the marks (block gs), the lines (under A), the channel (block c), the list of what has been taken out (in memory from B on). -/
structure BfSt (w0 : World) (gs c A B M cap nl : Nat) (la : Option Addr) (ls : List Ln) (T : List Nat) (k j : Nat) (cl : Bool) (v : Value) (w : World) : Prop where
  marks : w.ownsRow w0.heap.size 4 1 (.slice (some ⟨gs, 0, none⟩) M M) M (bv M (fun q => decide (q ∈ T)))
  lines : LnsAt la nl ls A A w
  chan : ChanAt c cap (waits T k) cl w
  list : w.ownsRow B 3 1 v j (Ints (T.take j))
  ags : A ≤ gs
  gsc : gs < c
  cB : c < B
  size : B ≤ w.heap.size
  base : w0.heap.size ≤ gs
  below : Below w0.heap.size w0 w
theorem slice_block {g g' n c : Nat} (e : (Value.slice (some ⟨g, 0, none⟩) n c).ownBlock = some g') : g' = g := by
  simp only [Value.ownBlock, Option.some.injEq] at e
  exact e.symm
section
variable {w0 w w' : World} {gs c A B M cap nl k j : Nat} {la : Option Addr} {ls : List Ln} {T : List Nat} {v : Value} {cl : Bool}
theorem BfSt.mark (h : BfSt w0 gs c A B M cap nl la ls T k j cl v w) (q : Nat) : q < M → w.cell? ⟨gs, q, none⟩ = some (.bool (decide (q ∈ T))) := fun hq => own_cell h.marks q hq _ (bv_get _ hq)
theorem BfSt.later (h : BfSt w0 gs c A B M cap nl la ls T k j cl v w) (hb : Below w.heap.size w w') : BfSt w0 gs c A B M cap nl la ls T k j cl v w' := by
  have h1 := h.ags
  have h2 := h.gsc
  have h3 := h.cB
  have h4 := h.size
  have h5 := h.base
  exact ⟨own_below h.marks hb, h.lines.turn (fun g _ hg => hb.block g (by omega)), h.chan.turn (hb.block c (by omega)), own_below h.list hb, h1, h2, h3, Nat.le_trans h4 hb.size, h5, h.below.trans (hb.mono (by omega))⟩
theorem BfSt.lb (h : BfSt w0 gs c A B M cap nl la ls T k j cl v w) {g : Nat} (e : v.ownBlock = some g) : B ≤ g := (h.list.lt g e).1
/-- The channel's block laid anew. -/
theorem BfSt.set (h : BfSt w0 gs c A B M cap nl la ls T k j cl v w) {k' : Nat} {cl' : Bool} {s r : Nat} : BfSt w0 gs c A B M cap nl la ls T k' j cl' v (w.setChan c cap (waits T k').toArray cl' s r false) := by
  have h1 := h.ags
  have h2 := h.gsc
  have h3 := h.cB
  have h4 := h.size
  have h5 := h.base
  refine ⟨own_turn h.marks (fun g e => set_other (by have := slice_block e; omega)), h.lines.turn (fun g _ hg => set_other (by omega)), chan_set _ _ _ _ h.chan.lt, own_turn h.list (fun g e => set_other (by have := h.lb e; omega)), h1, h2, h3, by rw [size_setChan]; exact h4, h5, below_setChan h.below (by omega) _ _ _ _ _ _⟩
/-- A new mark, and what waits behind it. -/
theorem BfSt.push (h : BfSt w0 gs c A B M cap nl la ls T k j cl v w) (r : Nat) (hk : k ≤ T.length) (hj : j ≤ T.length) (s r' : Nat) : BfSt w0 gs c A B M cap nl la ls (T ++ [r]) k j cl v ((w.setCell ⟨gs, r, none⟩ (.bool true)).setChan c cap ((waits T k).toArray.push (.int .i64 (r : Int))) cl s r' false) := by
  have h1 := h.ags
  have h2 := h.gsc
  have h3 := h.cB
  have h4 := h.size
  have h5 := h.base
  have hm := h.marks.stored r (.bool true)
  rw [bv_set] at hm
  have e1 : (T ++ [r]).take j = T.take j := List.take_append_of_le_length hj
  have ho : ∀ g, g ≠ gs → (w.setCell ⟨gs, r, none⟩ (.bool true)).heap[g]? = w.heap[g]? := fun g hg => heap_setCell_other _ ⟨gs, r, none⟩ g _ hg
  have hsz : (w.setCell ⟨gs, r, none⟩ (.bool true)).heap.size = w.heap.size := by simp
  rw [waits_push r hk]
  refine ⟨own_turn hm.1 (fun g e => set_other (by have := slice_block e; omega)), h.lines.turn (fun g hg hg' => (set_other (by omega)).trans (ho g (by omega))), chan_set _ _ _ _ (by rw [hsz]; exact h.chan.lt), ?_, h1, h2, h3, by rw [size_setChan, hsz]; exact h4, h5, below_setChan (set_below h.below h5) (by omega) _ _ _ _ _ _⟩
  rw [e1]
  exact own_turn h.list (fun g e => (set_other (by have := h.lb e; omega)).trans (ho g (by have := h.lb e; omega)))
/-- One more in the list of what has been taken out. -/
theorem BfSt.grown (h : BfSt w0 gs c A B M cap nl la ls T k j cl v w) (hb : Below B w w') {j' : Nat} {v' : Value} (ho : w'.ownsRow B 3 1 v' j' (Ints (T.take j'))) : BfSt w0 gs c A B M cap nl la ls T k j' cl v' w' := by
  have h1 := h.ags
  have h2 := h.gsc
  have h3 := h.cB
  have h4 := h.size
  have h5 := h.base
  exact ⟨own_under h.marks hb (by omega), h.lines.turn (fun g _ hg => hb.block g (by omega)), h.chan.turn (hb.block c (by omega)), ho, h1, h2, h3, Nat.le_trans h4 hb.size, h5, h.below.trans (hb.mono (by omega))⟩
end
/-- What the search hands back: all that is reached, each once, in some order. -/
def FoundPost (S : List Nat) (w : World) (e : Ending) (w' : World) : Prop := ∃ T : List Nat, T.Nodup ∧ 0 < T.length ∧ T.length ≤ 65536 ∧ (∀ q, q ∈ T ↔ q ∈ S) ∧ OwnInts T w e w'
end Go.Proofs.Ytgkmapemnlgldaa
