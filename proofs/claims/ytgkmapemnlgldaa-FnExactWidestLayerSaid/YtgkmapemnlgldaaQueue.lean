/- A list of the call's own that is taken from at its front and grows at its end: a slice from some place of a block on; of no program. -/
import Derived.Test.YtgkmapemnlgldaaBoards
namespace Go.Proofs.Ytgkmapemnlgldaa
open Go.RowKit
set_option linter.unusedVariables false
set_option linter.unusedSimpArgs false
/-- v is a slice of n cells, from whatever place of a block in memory from B on. -/
def QueAt (w : World) (B : Nat) (e : TypeId) (v : Value) (n : Nat) (xs : List Value) : Prop :=
  xs.length = n ∧ ∃ g off cap cur, v = .slice (some ⟨g, off, none⟩) n cap ∧ B ≤ g ∧ w.heap[g]? = some (.cells cur e (0, 0)) ∧ n ≤ cap ∧ cap ≤ maxLen ∧ off + cap ≤ cur.size ∧ (cur.toList.drop off).take n = xs
section
variable {P : Program} {w w' : World} {B n : Nat} {e : TypeId} {v x : Value} {xs : List Value}
theorem que_of_own {g cap : Nat} (h : w.ownsRow B e 1 (.slice (some ⟨g, 0, none⟩) n cap) n xs) : QueAt w B e (.slice (some ⟨g, 0, none⟩) n cap) n xs := by
  refine ⟨by simpa using h.1, ?_⟩
  rcases h.2 with ⟨h0, -⟩ | ⟨g', cap', cur, hv, hb, hg, h1, h2, h3, h4⟩
  · cases h0
  · cases hv
    exact ⟨g, 0, cap, cur, rfl, hb, hg, h1, h2, by omega, by simpa using h4⟩
theorem QueAt.turn (h : QueAt w B e v n xs) (hb : ∀ g, v.ownBlock = some g → w'.heap[g]? = w.heap[g]?) : QueAt w' B e v n xs := by
  obtain ⟨h0, g, off, cap, cur, rfl, h1, h2, rest⟩ := h
  exact ⟨h0, g, off, cap, cur, rfl, h1, (hb g rfl).trans h2, rest⟩
theorem QueAt.lt (h : QueAt w B e v n xs) {g : Nat} (hg : v.ownBlock = some g) : B ≤ g ∧ g < w.heap.size := by
  obtain ⟨h0, g', off, cap, cur, rfl, h1, h2, rest⟩ := h
  simp only [Value.ownBlock, Option.some.injEq] at hg
  subst hg
  exact ⟨h1, (Array.getElem?_eq_some_iff.1 h2).1⟩
theorem QueAt.later (h : QueAt w B e v n xs) (hb : Below w.heap.size w w') : QueAt w' B e v n xs := h.turn fun g hg => hb.block g (h.lt hg).2
theorem QueAt.kept {row : Option Nat} (h : QueAt w B e v n xs) (hg : w.grownBy w' row) (hne : v.ownBlock ≠ row) : QueAt w' B e v n xs := h.turn fun g e => hg.block g (h.lt e).2 (by rw [← e]; exact hne)
/-- Its form, and its cells. -/
theorem QueAt.form (h : QueAt w B e v n xs) : ∃ g off cap, v = .slice (some ⟨g, off, none⟩) n cap ∧ n ≤ cap ∧ ∀ j u, xs[j]? = some u → w.cell? ⟨g, off + j, none⟩ = some u := by
  obtain ⟨h0, g, off, cap, cur, rfl, h1, h2, h3, h4, h5, rfl⟩ := h
  refine ⟨g, off, cap, rfl, h3, fun j u hu => ?_⟩
  rw [List.getElem?_take] at hu
  split at hu
  · rw [cell_of_row w g (off + j) cur e (0, 0) h2]
    simpa [List.getElem?_drop] using hu
  · cases hu
/-- 'q[1:]'. -/
theorem QueAt.tail (h : QueAt w B e v (n + 1) (x :: xs)) : ∃ v', QueAt w B e v' n xs ∧ v'.ownBlock = v.ownBlock ∧ ∀ t, P.underlying t = some (.slice (P.elem t)) → (sizeOf (P.elem t)).run P w = .ok 1 w → (Instr.sliceAt t v (some (.int .i64 1)) none none).run P w = .ok v' w := by
  obtain ⟨h0, g, off, cap, cur, rfl, h1, h2, h3, h4, h5, h6⟩ := h
  have hxs : xs.length = n := by simpa using h0
  have h7 : (cur.toList.drop (off + 1)).take n = xs := by
    have := congrArg (List.drop 1) h6
    rw [List.drop_take, List.drop_drop] at this
    simpa using this
  refine ⟨sliced (some ⟨g, off, none⟩) 1 (n + 1) cap 1, ?_, ?_, fun t ht hs => ?_⟩
  · by_cases hc : cap = 1
    · subst hc
      obtain rfl : n = 0 := by omega
      obtain rfl : xs = [] := List.eq_nil_of_length_eq_zero hxs
      exact ⟨rfl, g, off, 0, cur, by simp [sliced], h1, h2, by omega, by omega, by omega, by simp⟩
    · exact ⟨hxs, g, off + 1, cap - 1, cur, by simp [sliced, hc, Addr.add], h1, h2, by omega, by omega, by omega, h7⟩
  · by_cases hc : cap = 1 <;> simp [sliced, hc, Addr.add, Value.ownBlock]
  · rw [run_sliceAt_slice _ t _ _ _ _ ht, run_slice_l _ t _ _ _ ht _ _ (by omega) (by omega), hs]
    rfl
theorem list_put {α : Type} {A : List α} {off n : Nat} (x : α) (h : off + n < A.length) : ((A.take (off + n) ++ [x] ++ A.drop (off + n + 1)).drop off).take (n + 1) = (A.drop off).take n ++ [x] := by
  have hl : (A.take (off + n)).length = off + n := by simp; omega
  have hl2 : ((A.drop off).take n).length = n := by simp; omega
  rw [List.append_assoc, List.drop_append_of_le_length (by omega), List.drop_take, show off + n - off = n by omega, ← List.append_assoc, List.take_append_of_le_length (by simp; omega), List.take_of_length_le (by simp; omega)]
/-- 'append(q, x)'. -/
theorem QueAt.append (h : QueAt w B e v n xs) (t ty : TypeId) (i : TypeInfo) (z : Value) (bytes : Nat) (ht : P.underlying t = some (.slice e)) (hi : P.info? e = some i) (hz : i.zero = some z)
    (hsize : i.size = 1) (hby : i.bytes = bytes) (hzs : z.cells.size = 1) (hsm : bytes ≤ 64) (p : Nat) (hp : w.heap[p]? = some (.cells #[x] e (0, 0))) (h1 : x.oneCell' = true) (hn : n ≤ 1000000000) (hbase : B ≤ w.heap.size) :
    ∃ v' w', (Builtin.append_ #[t, t] ty #[v, .slice (some ⟨p, 0, none⟩) 1 1]).run P w = .ok v' w' ∧ QueAt w' B e v' (n + 1) (xs ++ [x]) ∧ w.grownBy w' v.ownBlock ∧ (v'.ownBlock = v.ownBlock ∨ v'.ownBlock = some w.heap.size) := by
  have hnb : (n + 1) * bytes ≤ 140737488355328 := Nat.le_trans (Nat.mul_le_mul (show n + 1 ≤ 1000000001 by omega) hsm) (by decide)
  have hcells := h.form
  obtain ⟨h0, g, off, cap, cur, rfl, hb, hg, h3, h4, h5, h6⟩ := h
  obtain ⟨g', off', cap', hv, -, hcl⟩ := hcells
  cases hv
  have hnews : ∀ j u, ([x] : List Value)[j]? = some u → w.cell? ((⟨p, 0, none⟩ : Addr).add j) = some u := World.news_of_block (cs := #[x]) (t := e) (fr := (0, 0)) hp
  have hadd : ∀ k, (⟨g, off, none⟩ : Addr).add k = ⟨g, off + k, none⟩ := fun k => by unfold Addr.add; split <;> simp_all
  by_cases hroom : n + 1 ≤ cap
  · have hf := run_firstCells_some (P := P) w i.size 1 ⟨p, 0, none⟩ 1 1 [x] (by rw [hsize]; rfl) hnews
    have hst := run_storeCells_at P g (off + n) e [x] 0 cur w hg (by simp; omega) (by intro u hu; simp at hu; subst hu; exact h1)
    simp only [Nat.add_zero] at hst
    refine ⟨.slice (some ⟨g, off, none⟩) (n + 1) cap, w.setRow g (cur.toList.take (off + n) ++ [x] ++ cur.toList.drop (off + n + [x].length)).toArray, ?_, ⟨by simp [h0], g, off, cap, _, rfl, hb, setRow_heap w g cur _ e _ hg, hroom, h4, ?_, ?_⟩, ⟨rfl, rfl, rfl, by simp, fun k _ hk => setRow_other w g k _ (fun e => hk (by simp [Value.ownBlock, e]))⟩, .inl rfl⟩
    · rw [hsize] at hf
      simp [Builtin.append_, run_underlying ht, sizeOf, typeInfo, hi, hsize, Builtin.lenOf, hroom, hf, hadd, hst]
    · simp; omega
    · rw [← h6]
      exact list_put x (by simp; omega)
  · have hr := run_append_grow (P := P) w t ty e i z ht hi hz ⟨g, off, none⟩ n cap xs (by rw [hsize, Nat.mul_one]; exact h0) (fun j u hu => by rw [hadd]; exact hcl j u hu) ⟨p, 0, none⟩ 1 1 [x] (by rw [hsize]; rfl) hnews (by omega) (by omega) (growslice_fits (by omega) (by rw [hby]; exact hnb))
    refine ⟨_, _, hr, ⟨by simp [h0], w.heap.size, 0, _, _, rfl, hbase, heap_alloc_new w.drew _, grownCap_ge w (n + 1) cap e, grownCap_le_maxLen w (n + 1) cap e (by unfold maxLen; omega), ?_, ?_⟩, ⟨rfl, rfl, rfl, by simp, fun k hk _ => heap_alloc_old w.drew _ hk⟩, .inr rfl⟩
    · have := grownCap_ge w (n + 1) cap e
      simp only [Array.size_append, List.size_toArray, size_zeroCells, hzs, h0, List.length_singleton]
      omega
    · simp only [Array.toList_append, List.drop_zero, List.append_assoc]
      rw [← List.append_assoc, show n + 1 = (xs ++ [x]).length by simp [h0]]
      exact List.take_left
/-- 'q[1:]' at the operation. -/
theorem wpList_tail {ops : Array Oper} {rest : List Oper} {o : Oper} {a : Act} {Q : Exit → Act → World → Prop} (hg : o.guard = none) (s l : Operand) (t : TypeId) (hop : o.op = Op.slice t s (some l) none none)
    (ht : P.underlying t = some (.slice (P.elem t))) (hs : (sizeOf (P.elem t)).run P w = .ok 1 w) (hv : a.eval s = v) (hl : a.eval l = .int .i64 1) (h : QueAt w B e v (n + 1) (x :: xs))
    (hK : ∀ v', QueAt w B e v' n xs → v'.ownBlock = v.ownBlock → wpList P ops Q rest (a.put o.dst v') w) : wpList P ops Q (o :: rest) a w := by
  refine wpList_plain hg fun K' hK' => ?_
  obtain ⟨v', h1, h2, h3⟩ := h.tail (P := P)
  unfold Oper.wp
  simp [execOp, hop, hv, hl, h3 t ht hs, Result.andThen]
  exact hK' _ _ (hK v' h1 h2)
/-- 'append(q, x)' at the operation, x in the block that was laid last. -/
theorem wpList_append_que {ops : Array Oper} {rest : List Oper} {o : Oper} {a : Act} {Q : Exit → Act → World → Prop} {w0 : World} (hgd : o.guard = none) (s y : Operand) (t : TypeId)
    (ho : o.op = .call { callee := .builtin .append, args := #[s, y], argTypes := #[t, t] })
    (i : TypeInfo) (z : Value) (bytes : Nat) (ht : P.underlying t = some (.slice e)) (hi : P.info? e = some i) (hz : i.zero = some z) (hsize : i.size = 1) (hby : i.bytes = bytes) (hzs : z.cells.size = 1) (hsm : bytes ≤ 64)
    (h : QueAt w0 B e v n xs) (hs : a.eval s = v) (H : Nat) (hH : w0.heap.size = H) (hx : a.eval y = .slice (some ⟨H, 0, none⟩) 1 1) (h1 : x.oneCell' = true) (hn : n ≤ 1000000000) (hbase : B ≤ w0.heap.size)
    (hK : ∀ v' w', QueAt w' B e v' (n + 1) (xs ++ [x]) → (w0.alloc (.cells #[x] e)).grownBy w' v.ownBlock → Below B w0 w' → (v'.ownBlock = v.ownBlock ∨ v'.ownBlock = some (H + 1)) → wpList P ops Q rest (a.put o.dst v') w') :
    wpList P ops Q (o :: rest) a (w0.alloc (.cells #[x] e)) := by
  subst hH
  have hal : Below w0.heap.size w0 (w0.alloc (.cells #[x] e)) := (Below.refl _ _).alloc (Nat.le_refl _) _
  obtain ⟨v', w', hr, h2, h3, h4⟩ := (h.later hal).append (P := P) t o.type i z bytes ht hi hz hsize hby hzs hsm w0.heap.size (heap_alloc_new w0 _) h1 hn (by simp; omega)
  refine wpList_plain hgd fun K' hK' => ?_
  unfold Oper.wp execOp
  simp only [ho, resolve, invoke, builtin, Sem.run_bind, Sem.run_pure, Result.andThen_ok, List.map_toArray, List.map_cons, List.map_nil, hs, hx, hr]
  exact hK' _ _ (hK v' w' h2 h3 (((Below.refl B w0).alloc hbase _).grown h3 (by simp; omega) (fun k hk => (h.lt hk).1)) (by simpa using h4))
end
end Go.Proofs.Ytgkmapemnlgldaa
