/- append of one element within a region whose order is open; a board's box in a script. -/
import Derived.Test.YtdeciglcfabgpaaBoards
import Derived.OwnWalk
import Derived.Deep.AppendLies
namespace Go.Proofs.Ytdeciglcfabgpaa
open Go.RowKit
theorem closed_box {b : Nat} {W H Z : Int} {w0 : World} : Closed (Box b W H Z w0) := fun _ _ h k => h.later k
/-- append(v, x) of one element of one cell, v owned, x in a block of its own: at the operation. -/
theorem wp_append_one {P : Program} {o : Oper} {a : Act} {K : Act → World → Prop} {Q : Exit → Act → World → Prop} {w : World} {x : Value} (s y : Operand) (t : TypeId)
    (ho : o.op = .call { callee := .builtin .append, args := #[s, y], argTypes := #[t, t] })
    (base : Nat) (e : TypeId) (i : TypeInfo) (z : Value) (bytes : Nat) (ht : P.underlying t = some (.slice e)) (hi : P.info? e = some i) (hz : i.zero = some z)
    (hsize : i.size = 1) (hby : i.bytes = bytes) (hzs : z.cells.size = 1) (hsm : bytes ≤ 64)
    (v : Value) (n : Nat) (xs : List Value) (hs : a.eval s = v) (hown : w.ownsRow base e 1 v n xs) (p : Nat)
    (hx : a.eval y = .slice (some ⟨p, 0, none⟩) 1 1) (hp : w.heap[p]? = some (.cells #[x] e (0, 0))) (h1 : x.oneCell' = true) (hn : n ≤ 1000000000) (hbase : base ≤ w.heap.size)
    (h : ∀ g cap w', w'.ownsRow base e 1 (.slice (some ⟨g, 0, none⟩) (n + 1) cap) (n + 1) (xs ++ [x]) → w.grownBy w' v.ownBlock → Below base w w' → K (a.put o.dst (.slice (some ⟨g, 0, none⟩) (n + 1) cap)) w') : o.wp P a w K Q := by
  have hnb : (n + 1) * bytes ≤ 140737488355328 := Nat.le_trans (Nat.mul_le_mul (show n + 1 ≤ 1000000001 by omega) hsm) (by decide)
  refine wp_append_lies w s y t ho base e i z 1 bytes ht hi hz hsize hby hzs Nat.one_pos v n xs hs hown ⟨p, 0, none⟩ 1 1 [x] hx rfl
    (World.news_of_block (cs := #[x]) (t := e) (fr := (0, 0)) hp) (by intro u hu; simp at hu; subst hu; exact h1) Nat.one_pos (by unfold maxLen; omega) hnb hbase _ rfl ?_
  intro g cap w' h2 h3 _ _
  exact h g cap w' h2 h3 ((Below.refl base w).grown h3 hbase (fun k hk => (hown.lt k hk).1))
end Go.Proofs.Ytdeciglcfabgpaa
