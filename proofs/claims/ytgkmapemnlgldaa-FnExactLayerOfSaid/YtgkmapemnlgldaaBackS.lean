/- Backwards, of the program: the keys of a map, sorted by the library; BackOf, a search with a map and a list that is taken from at its front. -/
import Derived.Test.YtgkmapemnlgldaaReachI
import Derived.Test.YtgkmapemnlgldaaMapOwn
import Derived.Test.YtgkmapemnlgldaaQueue
import Derived.Deep.LoopGhost
import Derived.Shelf.SlIterI.Sorted
import Derived.Shelf.Slices.In.SortNone
namespace Go.Proofs.Ytgkmapemnlgldaa
open Go.RowKit Go.Conc Go.Sort Go.Maps
set_option linter.unusedVariables false
set_option linter.unusedSimpArgs false
/-- The library's sort at this translation, as slices.Sorted leans on it. -/
theorem sortsHere (m : Nat) : AnyZI.SortsIn Try.prog Try.laysZI6_ren Fence.wide m :=
  ⟨fun blk off cap ss W hH hblk hsz => callsIn_wide.2 (Any.slices_Sort_int Try.lays189 blk off cap ss W hH hblk hsz), fun p cap W => callsIn_wide.2 (Any.slices_Sort_int_none Try.lays189 p cap W)⟩
/-- A map whose keys are these numbers, each once. -/
def KeysAt (w : World) (b : Nat) (T : List Nat) : Prop := ∃ l, StmAt (Value.int .i64) Value.bool w b l ∧ l.map (·.1) = zl T ∧ ∀ p ∈ l, p.2 = true
theorem KeysAt.lt {w : World} {b : Nat} {T : List Nat} (h : KeysAt w b T) : b < w.heap.size := h.elim fun l h => h.1.lt
theorem KeysAt.block {w w' : World} {b : Nat} {T : List Nat} (h : KeysAt w b T) (hb : w'.heap[b]? = w.heap[b]?) : KeysAt w' b T := h.imp fun l h => ⟨h.1.block hb, h.2⟩
theorem zl_nodup {T : List Nat} (h : T.Nodup) : (zl T).Nodup := List.pairwise_map.2 (h.imp fun hne e => hne (by omega))
/-- 'm[k]' of such a map, and 'm[k] = true' of a number that it lacks. -/
theorem keys_look {P : Program} {K E T : TypeId} {w : World} {b : Nat} {xs : List Nat} (h : KeysAt w b xs) (R : KeyRun P K (Value.int .i64)) (ht : P.underlying T = some (.map K E)) (hz : (zeroValue E).run P w = .ok (.bool false) w) (x : Nat) : (Instr.lookup T (.map (some b)) (.int .i64 (x : Int)) false).run P w = .ok (.bool (decide (x ∈ xs))) w := by
  obtain ⟨l, h1, h2, h3⟩ := h
  have := h1.map.look false R ht hz (x : Int)
  simp only [Bool.false_eq_true, if_false] at this
  rw [get_true h3, h2] at this
  rw [this]
  have hm : decide ((x : Int) ∈ zl xs) = decide (x ∈ xs) := by
    rw [decide_eq_decide]
    simp only [zl, List.mem_map]
    exact ⟨fun ⟨a, ha, e⟩ => by obtain rfl : a = x := by omega
                                exact ha, fun h => ⟨x, h, rfl⟩⟩
  rw [hm]
theorem keys_add {P : Program} {K E T : TypeId} {w : World} {b : Nat} {xs : List Nat} (h : KeysAt w b xs) (R : KeyRun P K (Value.int .i64)) (ht : P.underlying T = some (.map K E)) {x : Nat} (hx : x ∉ xs) : ∃ w', (Instr.mapUpdate T (.map (some b)) (.int .i64 (x : Int)) (.bool true)).run P w = .ok () w' ∧ KeysAt w' b (xs ++ [x]) ∧ w.grownBy w' (some b) := by
  obtain ⟨l, h1, h2, h3⟩ := h
  obtain ⟨w', hr, hs, hg⟩ := h1.store R ht (x : Int) true
  have hn : (x : Int) ∉ l.map (·.1) := by
    rw [h2]
    simp only [zl, List.mem_map, not_exists, not_and]
    intro a ha e
    obtain rfl : a = x := by omega
    exact hx ha
  rw [put_none hn] at hs
  refine ⟨w', hr, ⟨_, hs, by simp [h2, zl], fun p hp => ?_⟩, hg⟩
  rcases List.mem_append.1 hp with hp | hp
  · exact h3 p hp
  · rw [List.mem_singleton.1 hp]
/-- The state of the search: the map (block fb), the lines (under A), what waits (in memory from B on). -/
structure BqSt (w0 : World) (fb A B nl : Nat) (la : Option Addr) (ls : List Ln) (T xs : List Nat) (v : Value) (w : World) : Prop where
  keys : KeysAt w fb T
  lines : LnsAt la nl ls A A w
  que : QueAt w B 3 v xs.length (Ints xs)
  afb : A ≤ fb
  fB : fb < B
  size : B ≤ w.heap.size
  base : w0.heap.size ≤ fb
  below : Below w0.heap.size w0 w
section
variable {w0 w w' : World} {fb A B nl : Nat} {la : Option Addr} {ls : List Ln} {T xs : List Nat} {v : Value}
theorem BqSt.later (h : BqSt w0 fb A B nl la ls T xs v w) (hb : Below w.heap.size w w') : BqSt w0 fb A B nl la ls T xs v w' := by
  have h1 := h.afb
  have h2 := h.fB
  have h3 := h.size
  have h4 := h.base
  exact ⟨h.keys.block (hb.block fb (by omega)), h.lines.turn (fun g _ hg => hb.block g (by omega)), h.que.later hb, h1, h2, Nat.le_trans h3 hb.size, h4, h.below.trans (hb.mono (by omega))⟩
/-- The map has one number more. -/
theorem BqSt.put (h : BqSt w0 fb A B nl la ls T xs v w) {r : Nat} (hk : KeysAt w' fb (T ++ [r])) (hg : w.grownBy w' (some fb)) : BqSt w0 fb A B nl la ls (T ++ [r]) xs v w' := by
  have h1 := h.afb
  have h2 := h.fB
  have h3 := h.size
  have h4 := h.base
  refine ⟨hk, h.lines.turn (fun g _ hg' => hg.block g (by omega) (by intro e; cases e; omega)), h.que.kept hg (fun e => ?_), h1, h2, Nat.le_trans h3 hg.size, h4, h.below.grown hg (by omega) (fun k e => by cases e; exact h4)⟩
  have := (h.que.lt e).1
  omega
/-- What waits has grown. -/
theorem BqSt.push (h : BqSt w0 fb A B nl la ls T xs v w) {r : Nat} {v' : Value} (hq : QueAt w' B 3 v' (xs.length + 1) (Ints xs ++ [.int .i64 (r : Int)])) (hb : Below B w w') : BqSt w0 fb A B nl la ls T (xs ++ [r]) v' w' := by
  have h1 := h.afb
  have h2 := h.fB
  have h3 := h.size
  have h4 := h.base
  refine ⟨h.keys.block (hb.block fb h2), h.lines.turn (fun g _ hg => hb.block g (by omega)), ?_, h1, h2, Nat.le_trans h3 hb.size, h4, h.below.trans (hb.mono (by omega))⟩
  rw [List.length_append, List.length_singleton, Ints_snoc]
  exact hq
theorem BqSt.tail {x : Nat} (h : BqSt w0 fb A B nl la ls T (x :: xs) v w) {v' : Value} (hq : QueAt w B 3 v' xs.length (Ints xs)) : BqSt w0 fb A B nl la ls T xs v' w := ⟨h.keys, h.lines, hq, h.afb, h.fB, h.size, h.base, h.below⟩
end
end Go.Proofs.Ytgkmapemnlgldaa
