/- Maps of the call's own, as association lists: look-up, store, delete, whatever the key's type is (ints; structs of two ints); of no program. -/
import Derived.Test.YtgkmapemnlgldaaBoards
import Derived.Maps.OwnSet
import Derived.Laws.StructEq
namespace Go.Proofs.Ytgkmapemnlgldaa
open Go.RowKit
open Go.MapKept (run_checkKey run_findKey run_keyThatStays run_setObj_map)
open Go.ChangeMaps (setBlock heap_setBlock_same heap_setBlock_other)
set_option linter.unusedVariables false
set_option linter.unusedSimpArgs false
set_option linter.unusedSectionVars false
/-- What the laws below ask of a key's type. -/
structure KeyRun (P : Program) (K : TypeId) {α : Type} [DecidableEq α] (enc : α → Value) : Prop where
  check : ∀ (w : World) (em : Bool) (x : α), (Instr.checkKey em 10000 K (enc x)).run P w = .ok () w
  find : ∀ (w : World) (x : α) (es : List MapEntry) (ks : List α), es.map (·.key) = ks.map enc →
    (x ∉ ks ∧ (Instr.findKey K (enc x) es).run P w = .ok none w) ∨ ∃ j e, (Instr.findKey K (enc x) es).run P w = .ok (some (j, e.val)) w ∧ es[j]? = some e ∧ ks[j]? = some x ∧ ∀ i, i < j → ks[i]? ≠ some x
  stays : ∀ (w : World) (x : α), (Instr.keyThatStays (enc x) (enc x)).run P w = .ok (enc x) w
section
variable {α β : Type} [DecidableEq α]
/-- What stands at a key. -/
def getM : List (α × β) → α → Option β
  | [], _ => none
  | p :: l, x => if p.1 = x then some p.2 else getM l x
def putM : List (α × β) → α → β → List (α × β)
  | [], x, v => [(x, v)]
  | p :: l, x, v => if p.1 = x then (x, v) :: l else p :: putM l x v
def delM : List (α × β) → α → List (α × β)
  | [], _ => []
  | p :: l, x => if p.1 = x then l else p :: delM l x
theorem getM_put (l : List (α × β)) (x : α) (v : β) (y : α) : getM (putM l x v) y = if y = x then some v else getM l y := by
  induction l with
  | nil =>
    by_cases h : y = x
    · subst h; simp [putM, getM]
    · have h' : ¬ x = y := fun e => h e.symm
      simp [putM, getM, h, h']
  | cons p l ih =>
    unfold putM
    split
    · next hp =>
      simp only [getM]
      by_cases h : y = x
      · subst h; simp
      · have h' : ¬ x = y := fun e => h e.symm
        have h2 : ¬ p.1 = y := fun e => h (e.symm.trans hp)
        simp [h, h', h2]
    · next hp =>
      simp only [getM, ih]
      split
      · next hy =>
        have h2 : ¬ y = x := fun e => hp (hy.trans e)
        simp [h2]
      · rfl
theorem keys_put (l : List (α × β)) (x : α) (v : β) : (putM l x v).map (·.1) = if x ∈ l.map (·.1) then l.map (·.1) else l.map (·.1) ++ [x] := by
  induction l with
  | nil => simp [putM]
  | cons p l ih =>
    unfold putM
    split
    · next hp => simp [hp]
    · next hp =>
      have h2 : ¬ x = p.1 := fun e => hp e.symm
      simp only [List.map_cons, ih, List.mem_cons, h2, false_or]
      split <;> rfl
theorem nodup_put {l : List (α × β)} (h : (l.map (·.1)).Nodup) (x : α) (v : β) : ((putM l x v).map (·.1)).Nodup := by
  rw [keys_put]
  split
  · exact h
  · next hx => exact List.pairwise_append.2 ⟨h, by simp, fun a ha b hb => by rw [List.mem_singleton.1 hb]; rintro rfl; exact hx ha⟩
theorem getM_none {l : List (α × β)} {x : α} : getM l x = none ↔ x ∉ l.map (·.1) := by
  induction l with
  | nil => simp [getM]
  | cons p l ih =>
    unfold getM
    split
    · next hp => simp [hp]
    · next hp =>
      have h2 : ¬ x = p.1 := fun e => hp e.symm
      simp only [List.map_cons, List.mem_cons, h2, false_or]
      exact ih
theorem getM_del {l : List (α × β)} (h : (l.map (·.1)).Nodup) (x y : α) : getM (delM l x) y = if y = x then none else getM l y := by
  induction l with
  | nil => simp [delM, getM]
  | cons p l ih =>
    rw [List.map_cons, List.nodup_cons] at h
    unfold delM
    split
    · next hp =>
      split
      · next hy => subst hy; rw [getM_none, ← hp]; exact h.1
      · next hy =>
        have h2 : ¬ p.1 = y := fun e => hy (e.symm.trans hp)
        simp [getM, h2]
    · next hp =>
      simp only [getM, ih h.2]
      split
      · next hy =>
        have h2 : ¬ y = x := fun e => hp (hy.trans e)
        simp [h2]
      · rfl
theorem keys_del (l : List (α × β)) (x : α) : (delM l x).map (·.1) = (l.map (·.1)).erase x := by
  induction l with
  | nil => simp [delM]
  | cons p l ih =>
    unfold delM
    split
    · next hp => simp [hp]
    · next hp => simp [List.erase_cons, hp, ih]
theorem nodup_del {l : List (α × β)} (h : (l.map (·.1)).Nodup) (x : α) : ((delM l x).map (·.1)).Nodup := by
  rw [keys_del]; exact h.erase x
theorem put_len (l : List (α × β)) (x : α) (v : β) : (putM l x v).length ≤ l.length + 1 := by
  have := congrArg List.length (keys_put l x v)
  rw [List.length_map] at this
  rw [this]
  split <;> simp
theorem put_none {l : List (α × β)} {x : α} (h : x ∉ l.map (·.1)) (v : β) : putM l x v = l ++ [(x, v)] := by
  induction l with
  | nil => rfl
  | cons p l ih =>
    rw [List.map_cons, List.mem_cons] at h
    have h2 : ¬ p.1 = x := fun e => h (.inl e.symm)
    simp [putM, h2, ih (fun e => h (.inr e))]
theorem put_some {l : List (α × β)} {x : α} {j : Nat} (h : (l.map (·.1))[j]? = some x) (hf : ∀ i, i < j → (l.map (·.1))[i]? ≠ some x) (v : β) : putM l x v = l.set j (x, v) := by
  induction l generalizing j with
  | nil => simp at h
  | cons p l ih =>
    cases j with
    | zero => simp at h; simp [putM, h]
    | succ j =>
      have h2 : ¬ p.1 = x := fun e => hf 0 (Nat.zero_lt_succ _) (by simp [e])
      simp only [List.map_cons, List.getElem?_cons_succ] at h
      simp [putM, h2, ih h (fun i hi => by have := hf (i + 1) (by omega); simpa using this)]
theorem del_none {l : List (α × β)} {x : α} (h : x ∉ l.map (·.1)) : delM l x = l := by
  induction l with
  | nil => rfl
  | cons p l ih =>
    rw [List.map_cons, List.mem_cons] at h
    have h2 : ¬ p.1 = x := fun e => h (.inl e.symm)
    simp [delM, h2, ih (fun e => h (.inr e))]
theorem del_some {l : List (α × β)} {x : α} {j : Nat} (h : (l.map (·.1))[j]? = some x) (hf : ∀ i, i < j → (l.map (·.1))[i]? ≠ some x) : delM l x = l.eraseIdx j := by
  induction l generalizing j with
  | nil => simp at h
  | cons p l ih =>
    cases j with
    | zero => simp at h; simp [delM, h]
    | succ j =>
      have h2 : ¬ p.1 = x := fun e => hf 0 (Nat.zero_lt_succ _) (by simp [e])
      simp only [List.map_cons, List.getElem?_cons_succ] at h
      simp [delM, h2, ih h (fun i hi => by have := hf (i + 1) (by omega); simpa using this)]
theorem get_some {l : List (α × β)} {x : α} {j : Nat} {v : β} (h : l[j]? = some (x, v)) (hf : ∀ i, i < j → (l.map (·.1))[i]? ≠ some x) : getM l x = some v := by
  induction l generalizing j with
  | nil => simp at h
  | cons p l ih =>
    cases j with
    | zero => simp at h; simp [getM, h]
    | succ j =>
      have h2 : ¬ p.1 = x := fun e => hf 0 (Nat.zero_lt_succ _) (by simp [e])
      simp only [List.getElem?_cons_succ] at h
      simp [getM, h2, ih h (fun i hi => by have := hf (i + 1) (by omega); simpa using this)]
/-- Block b is a map with these entries. -/
def MapAt (enc : α → Value) (val : β → Value) (w : World) (b : Nat) (l : List (α × β)) : Prop :=
  ∃ (es : Array MapEntry) (clock : Nat), w.heap[b]? = some (.map es clock) ∧ es.toList.map (fun e => (e.key, e.val)) = l.map (fun p => (enc p.1, val p.2))
variable {P : Program} {K T E : TypeId} {enc : α → Value} {val : β → Value} {w w' : World} {b : Nat} {l : List (α × β)}
theorem MapAt.made (enc : α → Value) (val : β → Value) (w : World) : MapAt enc val (w.alloc (.map #[] 0)) w.heap.size [] := ⟨#[], 0, heap_alloc_new w _, rfl⟩
theorem MapAt.lt (h : MapAt enc val w b l) : b < w.heap.size := by
  obtain ⟨es, clock, hb, -⟩ := h
  exact (Array.getElem?_eq_some_iff.1 hb).1
theorem MapAt.later (h : MapAt enc val w b l) (hb : Below w.heap.size w w') : MapAt enc val w' b l := by
  obtain ⟨es, clock, h1, h2⟩ := h
  exact ⟨es, clock, by rw [hb.block _ (Array.getElem?_eq_some_iff.1 h1).1]; exact h1, h2⟩
theorem MapAt.kept {row : Option Nat} (h : MapAt enc val w b l) (hg : w.grownBy w' row) (hne : some b ≠ row) : MapAt enc val w' b l := by
  obtain ⟨es, clock, h1, h2⟩ := h
  exact ⟨es, clock, by rw [hg.block _ (Array.getElem?_eq_some_iff.1 h1).1 hne]; exact h1, h2⟩
private theorem keys_of {es : List MapEntry} (h : es.map (fun e => (e.key, e.val)) = l.map (fun p => (enc p.1, val p.2))) : es.map (·.key) = (l.map (·.1)).map enc := by
  have := congrArg (List.map Prod.fst) h
  simpa [List.map_map, Function.comp_def] using this
private theorem grown_setBlock {es : Array MapEntry} {clock : Nat} (hb : w.heap[b]? = some (.map es clock)) (o : Obj) : w.grownBy (setBlock w b o) (some b) :=
  ⟨rfl, rfl, rfl, by simp [setBlock], fun i _ hi => heap_setBlock_other hb _ (fun e => hi (by rw [e]))⟩
/-- 'm[k]' and 'v, ok := m[k]'. -/
theorem MapAt.look (c : Bool) (h : MapAt enc val w b l) (R : KeyRun P K enc) (ht : P.underlying T = some (.map K E)) {z : Value} (hz : (zeroValue E).run P w = .ok z w) (x : α) :
    (Instr.lookup T (.map (some b)) (enc x) c).run P w = .ok (if c then .tuple #[((getM l x).map val).getD z, .bool (getM l x).isSome] else ((getM l x).map val).getD z) w := by
  obtain ⟨es, clock, hb, hl⟩ := h
  rcases R.find w x es.toList (l.map (·.1)) (keys_of hl) with ⟨h1, h2⟩ | ⟨j, e, h1, h2, h3, h4⟩
  · rw [getM_none.2 h1]
    cases c <;> simp [Instr.lookup, run_underlying ht, MapKept.run_getObj_map hb, R.check w _ x, h2, hz, Result.andThen]
  · obtain ⟨⟨x', v⟩, hp, rfl⟩ : ∃ p, l[j]? = some p ∧ p.1 = x := by
      rw [List.getElem?_map] at h3
      cases hp : l[j]? with
      | none => rw [hp] at h3; simp at h3
      | some p => rw [hp] at h3; simp at h3; exact ⟨p, rfl, h3⟩
    simp only at h1 h3 h4
    have he : e.val = val v := by
      have := congrArg (fun l => l[j]?) hl
      simp only [List.getElem?_map, h2, hp, Option.map_some, Option.some.injEq, Prod.mk.injEq] at this
      exact this.2
    rw [get_some hp h4]
    cases c <;> simp [Instr.lookup, run_underlying ht, MapKept.run_getObj_map hb, R.check w _ x', h1, he, Result.andThen]
/-- 'm[k] = v'. -/
theorem MapAt.store (h : MapAt enc val w b l) (R : KeyRun P K enc) (ht : P.underlying T = some (.map K E)) (x : α) (v : β) :
    ∃ w', (Instr.mapUpdate T (.map (some b)) (enc x) (val v)).run P w = .ok () w' ∧ MapAt enc val w' b (putM l x v) ∧ w.grownBy w' (some b) := by
  obtain ⟨es, clock, hb, hl⟩ := h
  rcases R.find w x es.toList (l.map (·.1)) (keys_of hl) with ⟨h1, h2⟩ | ⟨j, e, h1, h2, h3, h4⟩
  · refine ⟨setBlock w b (.map (es.push ⟨enc x, val v, clock⟩) (clock + 1)), ?_, ⟨_, _, heap_setBlock_same hb _, ?_⟩, grown_setBlock hb _⟩
    · simp [Instr.mapUpdate, run_underlying ht, MapKept.run_getObj_map hb, R.check w false x, h2, run_setObj_map _ hb, Result.andThen, setBlock]
    · rw [put_none h1]
      simp [hl]
  · have hj : es[j]? = some e := by simpa using h2
    have he : e.key = enc x := by
      have := congrArg (fun l => l[j]?) (keys_of hl)
      simp only [List.getElem?_map (f := enc), h3, List.getElem?_map, h2, Option.map_some, Option.some.injEq] at this
      exact this
    refine ⟨setBlock w b (.map (es.modify j (fun e' => { e' with key := enc x, val := val v })) clock), ?_, ⟨_, _, heap_setBlock_same hb _, ?_⟩, grown_setBlock hb _⟩
    · simp [Instr.mapUpdate, run_underlying ht, MapKept.run_getObj_map hb, R.check w false x, h1, hj, he, R.stays w x, run_setObj_map _ hb, Result.andThen, setBlock]
    · rw [put_some h3 h4, Array.toList_modify, Go.ChangeMaps.modify_eq_set _ _ _ _ h2, List.map_set, List.map_set, hl]
/-- 'delete(m, k)'. -/
theorem MapAt.drop {ty : TypeId} (h : MapAt enc val w b l) (R : KeyRun P K enc) (ht : P.underlying T = some (.map K E)) (x : α) :
    ∃ w', (Builtin.delete_ #[T, K] ty #[.map (some b), enc x]).run P w = .ok (.tuple #[]) w' ∧ MapAt enc val w' b (delM l x) ∧ w.grownBy w' (some b) := by
  obtain ⟨es, clock, hb, hl⟩ := h
  rcases R.find w x es.toList (l.map (·.1)) (keys_of hl) with ⟨h1, h2⟩ | ⟨j, e, h1, h2, h3, h4⟩
  · refine ⟨setBlock w b (.map es clock), ?_, ⟨_, _, heap_setBlock_same hb _, ?_⟩, grown_setBlock hb _⟩
    · simp [Builtin.delete_, run_underlying ht, MapKept.run_getObj_map hb, R.check w _ x, h2, run_setObj_map _ hb, Result.andThen, setBlock]
    · rw [del_none h1]; exact hl
  · have hjs : j < es.size := by have := (List.getElem?_eq_some_iff.1 h2).1; simpa using this
    have hsub : (es.eraseIdxIfInBounds j).toList = es.toList.eraseIdx j := by
      unfold Array.eraseIdxIfInBounds
      rw [dif_pos hjs]
      simp
    refine ⟨setBlock w b (.map (es.eraseIdxIfInBounds j) clock), ?_, ⟨_, _, heap_setBlock_same hb _, ?_⟩, grown_setBlock hb _⟩
    · simp [Builtin.delete_, run_underlying ht, MapKept.run_getObj_map hb, R.check w _ x, h1, run_setObj_map _ hb, Result.andThen, setBlock]
    · rw [del_some h3 h4, hsub, Go.ChangeMaps.map_eraseIdx, Go.ChangeMaps.map_eraseIdx, hl]
/-- At the operation, for the walk. -/
theorem wpList_look {ops : Array Oper} {rest : List Oper} {o : Oper} {a : Act} {Q : Exit → Act → World → Prop} (hg : o.guard = none) (m k : Operand) (T : TypeId) (c : Bool) (hop : o.op = Op.lookup T m k c)
    (h : MapAt enc val w b l) (R : KeyRun P K enc) (ht : P.underlying T = some (.map K E)) {z : Value} (hz : (zeroValue E).run P w = .ok z w) (hm : a.eval m = .map (some b)) (x : α) (hk : a.eval k = enc x)
    (hK : wpList P ops Q rest (a.put o.dst (if c then .tuple #[((getM l x).map val).getD z, .bool (getM l x).isSome] else ((getM l x).map val).getD z)) w) : wpList P ops Q (o :: rest) a w := by
  refine wpList_plain hg fun K' hK' => ?_
  unfold Oper.wp
  simp [execOp, hop, hm, hk, h.look c R ht hz x, Result.andThen]
  exact hK' _ _ (by cases c <;> simpa using hK)
theorem wpList_put {ops : Array Oper} {rest : List Oper} {o : Oper} {a : Act} {Q : Exit → Act → World → Prop} (hg : o.guard = none) (m k e : Operand) (T : TypeId) (hop : o.op = Op.mapUpdate T m k e)
    (h : MapAt enc val w b l) (R : KeyRun P K enc) (ht : P.underlying T = some (.map K E)) (hm : a.eval m = .map (some b)) (x : α) (hk : a.eval k = enc x) (v : β) (he : a.eval e = val v)
    (hK : ∀ w', MapAt enc val w' b (putM l x v) → w.grownBy w' (some b) → wpList P ops Q rest (a.put o.dst undef) w') : wpList P ops Q (o :: rest) a w := by
  refine wpList_plain hg fun K' hK' => ?_
  obtain ⟨w', hrun, r1, r2⟩ := h.store R ht x v
  unfold Oper.wp
  simp [execOp, hop, hm, hk, he, hrun, Result.andThen]
  exact hK' _ _ (hK w' r1 r2)
theorem wpList_del {ops : Array Oper} {rest : List Oper} {o : Oper} {a : Act} {Q : Exit → Act → World → Prop} (hg : o.guard = none) (m k : Operand) (T K : TypeId) (hop : o.op = Op.call { callee := Callee.builtin Builtin.delete, args := #[m, k], argTypes := #[T, K] })
    (h : MapAt enc val w b l) (R : KeyRun P K enc) (ht : P.underlying T = some (.map K E)) (hm : a.eval m = .map (some b)) (x : α) (hk : a.eval k = enc x)
    (hK : ∀ w', MapAt enc val w' b (delM l x) → w.grownBy w' (some b) → wpList P ops Q rest (a.put o.dst (.tuple #[])) w') : wpList P ops Q (o :: rest) a w := by
  refine wpList_plain hg fun K' hK' => ?_
  obtain ⟨w', hrun, r1, r2⟩ := h.drop (ty := o.type) R ht x
  unfold Oper.wp
  simp [execOp, hop, resolve, invoke, builtin, hm, hk, hrun, Result.andThen]
  exact hK' _ _ (hK w' r1 r2)
end
/-- Keys that are looked up by '=='. -/
theorem find_asking {P : Program} {K : TypeId} {α : Type} [DecidableEq α] {enc : α → Value} (heq : ∀ (w : World) (x y : α), (Op.equal K (enc x) (enc y)).run P w = .ok (decide (x = y)) w) (w : World) (x : α) :
    ∀ (es : List MapEntry) (ks : List α) (i : Nat), es.map (·.key) = ks.map enc →
    (x ∉ ks ∧ (Instr.findAsking K (enc x) es i).run P w = .ok none w) ∨ ∃ j e, (Instr.findAsking K (enc x) es i).run P w = .ok (some (i + j, e.val)) w ∧ es[j]? = some e ∧ ks[j]? = some x ∧ ∀ i, i < j → ks[i]? ≠ some x
  | [], [], i, _ => .inl ⟨by simp, by simp [Instr.findAsking]⟩
  | e :: es, k :: ks, i, h => by
    simp only [List.map_cons, List.cons.injEq] at h
    by_cases hx : x = k
    · exact .inr ⟨0, e, by simp [Instr.findAsking, h.1, heq, hx], rfl, by simp [hx], fun i hi => absurd hi (Nat.not_lt_zero _)⟩
    · have hx' : ¬ k = x := fun e => hx e.symm
      rcases find_asking heq w x es ks (i + 1) h.2 with ⟨h1, h2⟩ | ⟨j, e', h1, h2, h3, h4⟩
      · exact .inl ⟨by simp [hx, h1], by simp [Instr.findAsking, h.1, heq, hx, h2]⟩
      · refine .inr ⟨j + 1, e', by simp [Instr.findAsking, h.1, heq, hx, h1, Nat.add_assoc, Nat.add_comm 1 j], by simpa using h2, by simpa using h3, fun i hi => ?_⟩
        cases i with
        | zero => simpa using hx'
        | succ i => simpa using h4 i (by omega)
theorem find_now {P : Program} {K : TypeId} {q : IntKind} (hu : P.underlying K = some (.int q)) (w : World) (x : Int) :
    ∀ (es : List MapEntry) (ks : List Int) (i : Nat), es.map (·.key) = ks.map (fun n => Value.int q n) →
    (x ∉ ks ∧ Instr.findNow (.int q) (.int q x) es i = some none) ∨ ∃ j e, Instr.findNow (.int q) (.int q x) es i = some (some (i + j, e.val)) ∧ es[j]? = some e ∧ ks[j]? = some x ∧ ∀ i, i < j → ks[i]? ≠ some x
  | [], [], i, _ => .inl ⟨by simp, by simp [Instr.findNow]⟩
  | e :: es, k :: ks, i, h => by
    simp only [List.map_cons, List.cons.injEq] at h
    by_cases hx : x = k
    · exact .inr ⟨0, e, by simp [Instr.findNow, Instr.sameNow, h.1, hx], rfl, by simp [hx], fun i hi => absurd hi (Nat.not_lt_zero _)⟩
    · have hx' : ¬ k = x := fun e => hx e.symm
      have hb : (x == k) = false := by simp [hx]
      rcases find_now hu w x es ks (i + 1) h.2 with ⟨h1, h2⟩ | ⟨j, e', h1, h2, h3, h4⟩
      · exact .inl ⟨by simp [hx, h1], by simp [Instr.findNow, Instr.sameNow, h.1, hb, h2]⟩
      · refine .inr ⟨j + 1, e', by simp [Instr.findNow, Instr.sameNow, h.1, hb, h1, Nat.add_assoc, Nat.add_comm 1 j], by simpa using h2, by simpa using h3, fun i hi => ?_⟩
        cases i with
        | zero => simpa using hx'
        | succ i => simpa using h4 i (by omega)
/-- Keys that are ints. -/
theorem key_int {P : Program} {K : TypeId} {q : IntKind} (hu : P.underlying K = some (.int q)) : KeyRun P K (fun n : Int => Value.int q n) where
  check w em x := run_checkKey hu (by rfl) em 9999
  find w x es ks h := by
    rcases find_now hu w x es ks 0 h with ⟨h1, h2⟩ | ⟨j, e, h1, h2, h3, h4⟩
    · exact .inl ⟨h1, run_findKey hu h2⟩
    · exact .inr ⟨j, e, by simpa using run_findKey hu h1, h2, h3, h4⟩
  stays w x := run_keyThatStays (d := .int q) (by rfl)
/-- Keys that are structs of two ints. -/
theorem key_two {P : Program} {K : TypeId} {f0 f1 : Field} (hu : P.underlying K = some (.struct #[f0, f1])) (hp : P.stoodInHeld K = false) (n0 : f0.name ≠ "_") (n1 : f1.name ≠ "_") (o0 : f0.offset = 0) (o1 : f1.offset = 1)
    (u0 : P.underlying f0.type = some (.int .i64)) (u1 : P.underlying f1.type = some (.int .i64)) : KeyRun P K (fun s : Int × Int => Value.agg #[.int .i64 s.1, .int .i64 s.2]) := by
  have a0 : ∀ w, (isAgg f0.type).run P w = .ok false w := fun w => by simp [isAgg, Sem.run_bind, run_underlying u0]
  have a1 : ∀ w, (isAgg f1.type).run P w = .ok false w := fun w => by simp [isAgg, Sem.run_bind, run_underlying u1]
  have p0 : ∀ (a b : Int) w, (part f0.type #[.int .i64 a, .int .i64 b] 0).run P w = .ok (.int .i64 a) w := fun a b w => by simp [part, a0]
  have p1 : ∀ (a b : Int) w, (part f1.type #[.int .i64 a, .int .i64 b] 1).run P w = .ok (.int .i64 b) w := fun a b w => by simp [part, a1]
  have hf : P.fieldsOf K = #[f0, f1] := by simp [Program.fieldsOf, hu]
  have heq : ∀ (w : World) (x y : Int × Int), (Op.equal K (.agg #[.int .i64 x.1, .int .i64 x.2]) (.agg #[.int .i64 y.1, .int .i64 y.2])).run P w = .ok (decide (x = y)) w := fun w x y => by
    unfold Op.equal Op.maxDepth
    rw [show (10000 : Nat) = 9999 + 1 from rfl, run_equalIn_struct w 9999 K _ _ (by rw [hf]; exact hu) hp, hf]
    have E0 : ∀ (a b : Int) w, (Op.equalIn 9999 f0.type (.int .i64 a) (.int .i64 b)).run P w = .ok (a == b) w := fun a b w => run_equalIn_int w 9998 f0.type .i64 .i64 a b u0
    have E1 : ∀ (a b : Int) w, (Op.equalIn 9999 f1.type (.int .i64 a) (.int .i64 b)).run P w = .ok (a == b) w := fun a b w => run_equalIn_int w 9998 f1.type .i64 .i64 a b u1
    obtain ⟨a, b⟩ := x
    obtain ⟨c, d⟩ := y
    by_cases h1 : a = c <;> by_cases h2 : b = d <;> simp [Op.eqFields, n0, n1, o0, o1, p0, p1, E0, E1, h1, h2, Prod.ext_iff]
  refine ⟨fun w em x => ?_, fun w x es ks h => ?_, fun w x => ?_⟩
  · rw [show (10000 : Nat) = 9999 + 1 from rfl]
    unfold Instr.checkKey
    simp only [Sem.run_bind, run_underlying hu, Result.andThen_ok]
    rw [← Array.forIn_toList]
    have C0 : ∀ (a : Int) w, (Instr.checkKey em 9999 f0.type (.int .i64 a)).run P w = .ok () w := fun a w => run_checkKey u0 (by rfl) em 9998
    have C1 : ∀ (a : Int) w, (Instr.checkKey em 9999 f1.type (.int .i64 a)).run P w = .ok () w := fun a w => run_checkKey u1 (by rfl) em 9998
    simp [n0, n1, o0, o1, p0, p1, C0, C1]
  · have hask : (Instr.findKey K (.agg #[.int .i64 x.1, .int .i64 x.2]) es).run P w = (Instr.findAsking K (.agg #[.int .i64 x.1, .int .i64 x.2]) es 0).run P w := by
      unfold Instr.findKey
      simp only [Sem.run_bind, run_underlying hu, Result.andThen_ok]
      cases es with
      | nil => simp [Instr.findNow, Instr.findAsking]
      | cons e es => simp [Instr.findNow, Instr.sameNow]
    rw [hask]
    rcases find_asking heq w x es ks 0 h with ⟨h1, h2⟩ | ⟨j, e, h1, h2, h3, h4⟩
    · exact .inl ⟨h1, h2⟩
    · exact .inr ⟨j, e, by simpa using h1, h2, h3, h4⟩
  · unfold Instr.keyThatStays
    rw [if_pos (by rw [show (10000 : Nat) = 9998 + 1 + 1 from rfl]; simp [Instr.sameBits])]
    rfl
end Go.Proofs.Ytgkmapemnlgldaa
