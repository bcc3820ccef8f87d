/- A map of the call's own, ranged over: its entries come one by one, in whatever order; no condition on the keys' ints; of no program. -/
import Derived.Test.YtgkmapemnlgldaaMapKit
import Derived.Maps.RangeWalk
namespace Go.Proofs.Ytgkmapemnlgldaa
open Go.RowKit
open Go.ChangeMaps (setBlock heap_setBlock_same heap_setBlock_other)
set_option linter.unusedVariables false
set_option linter.unusedSimpArgs false
set_option linter.unusedSectionVars false
section
variable {α β : Type} [DecidableEq α]
/-- Block b is a map with these entries, each with a stamp of its own. -/
def StmAt (enc : α → Value) (val : β → Value) (w : World) (b : Nat) (l : List (α × β)) : Prop :=
  ∃ (es : Array MapEntry) (clock : Nat), w.heap[b]? = some (.map es clock) ∧ es.toList.map (fun e => (e.key, e.val)) = l.map (fun p => (enc p.1, val p.2)) ∧ (es.toList.map (·.born)).Nodup ∧ ∀ e ∈ es.toList, e.born < clock
variable {P : Program} {K T E : TypeId} {enc : α → Value} {val : β → Value} {w w' : World} {b r : Nat} {l todo : List (α × β)}
theorem StmAt.map (h : StmAt enc val w b l) : MapAt enc val w b l := by
  obtain ⟨es, clock, h1, h2, -⟩ := h
  exact ⟨es, clock, h1, h2⟩
theorem StmAt.made (enc : α → Value) (val : β → Value) (w : World) : StmAt enc val (w.alloc (.map #[] 0)) w.heap.size [] := ⟨#[], 0, heap_alloc_new w _, rfl, by simp, by simp⟩
theorem StmAt.lt (h : StmAt enc val w b l) : b < w.heap.size := h.map.lt
theorem StmAt.block (h : StmAt enc val w b l) (hb : w'.heap[b]? = w.heap[b]?) : StmAt enc val w' b l := by
  obtain ⟨es, clock, h1, rest⟩ := h
  exact ⟨es, clock, hb.trans h1, rest⟩
theorem StmAt.later (h : StmAt enc val w b l) (hb : Below w.heap.size w w') : StmAt enc val w' b l := h.block (hb.block _ h.lt)
theorem StmAt.kept {row : Option Nat} (h : StmAt enc val w b l) (hg : w.grownBy w' row) (hne : some b ≠ row) : StmAt enc val w' b l := h.block (hg.block _ h.lt hne)
theorem StmAt.below {B : Nat} (h : StmAt enc val w b l) (hb : Below B w w') (hB : b < B) : StmAt enc val w' b l := h.block (hb.block _ hB)
private theorem stm_keys {es : List MapEntry} (h : es.map (fun e => (e.key, e.val)) = l.map (fun p => (enc p.1, val p.2))) : es.map (·.key) = (l.map (·.1)).map enc := by
  have := congrArg (List.map Prod.fst) h
  simpa [List.map_map, Function.comp_def] using this
private theorem stm_grown {es : Array MapEntry} {clock : Nat} (hb : w.heap[b]? = some (.map es clock)) (o : Obj) : w.grownBy (setBlock w b o) (some b) :=
  ⟨rfl, rfl, rfl, by simp [setBlock], fun i _ hi => heap_setBlock_other hb _ (fun e => hi (by rw [e]))⟩
/-- 'm[k] = v'. -/
theorem StmAt.store (h : StmAt enc val w b l) (R : KeyRun P K enc) (ht : P.underlying T = some (.map K E)) (x : α) (v : β) :
    ∃ w', (Instr.mapUpdate T (.map (some b)) (enc x) (val v)).run P w = .ok () w' ∧ StmAt enc val w' b (putM l x v) ∧ w.grownBy w' (some b) := by
  obtain ⟨es, clock, hb, hl, hn, hlt⟩ := h
  rcases R.find w x es.toList (l.map (·.1)) (stm_keys hl) with ⟨h1, h2⟩ | ⟨j, e, h1, h2, h3, h4⟩
  · refine ⟨setBlock w b (.map (es.push ⟨enc x, val v, clock⟩) (clock + 1)), ?_, ⟨_, _, heap_setBlock_same hb _, ?_, ?_, ?_⟩, stm_grown hb _⟩
    · simp [Instr.mapUpdate, run_underlying ht, MapKept.run_getObj_map hb, R.check w false x, h2, MapKept.run_setObj_map _ hb, Result.andThen, setBlock]
    · rw [put_none h1]
      simp [hl]
    · simp only [Array.toList_push, List.map_append, List.map_cons, List.map_nil]
      refine List.pairwise_append.2 ⟨hn, by simp, fun a ha c hc => ?_⟩
      rw [List.mem_singleton.1 hc]
      obtain ⟨e, he, rfl⟩ := List.mem_map.1 ha
      have := hlt e he
      omega
    · intro e he
      simp only [Array.toList_push, List.mem_append, List.mem_singleton] at he
      rcases he with he | rfl
      · have := hlt e he; omega
      · exact Nat.lt_succ_self _
  · have hj : es[j]? = some e := by simpa using h2
    have he : e.key = enc x := by
      have := congrArg (fun l => l[j]?) (stm_keys hl)
      simp only [List.getElem?_map (f := enc), h3, List.getElem?_map, h2, Option.map_some, Option.some.injEq] at this
      exact this
    have hset : (es.modify j (fun e' => { e' with key := enc x, val := val v })).toList = es.toList.set j { e with key := enc x, val := val v } := by
      rw [Array.toList_modify, Go.ChangeMaps.modify_eq_set _ _ _ _ h2]
    have hborn : ((es.toList.set j { e with key := enc x, val := val v }).map (·.born)) = es.toList.map (·.born) := by
      rw [List.map_set]
      refine List.ext_getElem? fun i => ?_
      rw [List.getElem?_set]
      split
      · next hij =>
        subst hij
        have hlen := (List.getElem?_eq_some_iff.1 h2).1
        rw [if_pos (by simpa using hlen), List.getElem?_map, h2]
        rfl
      · rfl
    refine ⟨setBlock w b (.map (es.modify j (fun e' => { e' with key := enc x, val := val v })) clock), ?_, ⟨_, _, heap_setBlock_same hb _, ?_, ?_, ?_⟩, stm_grown hb _⟩
    · simp [Instr.mapUpdate, run_underlying ht, MapKept.run_getObj_map hb, R.check w false x, h1, hj, he, R.stays w x, MapKept.run_setObj_map _ hb, Result.andThen, setBlock]
    · rw [put_some h3 h4, hset, List.map_set, List.map_set, hl]
    · rw [hset, hborn]; exact hn
    · intro e' he'
      rw [hset] at he'
      have : e'.born ∈ es.toList.map (·.born) := by rw [← hborn]; exact List.mem_map.2 ⟨e', he', rfl⟩
      obtain ⟨e'', h5, h6⟩ := List.mem_map.1 this
      rw [← h6]
      exact hlt e'' h5
/-- 'm[k] = v' at the operation, for the walk. -/
theorem wpList_putS {ops : Array Oper} {rest : List Oper} {o : Oper} {a : Act} {Q : Exit → Act → World → Prop} (hg : o.guard = none) (m k e : Operand) (T : TypeId) (hop : o.op = Op.mapUpdate T m k e)
    (h : StmAt enc val w b l) (R : KeyRun P K enc) (ht : P.underlying T = some (.map K E)) (hm : a.eval m = .map (some b)) (x : α) (hk : a.eval k = enc x) (v : β) (he : a.eval e = val v)
    (hK : ∀ w', StmAt enc val w' b (putM l x v) → w.grownBy w' (some b) → wpList P ops Q rest (a.put o.dst undef) w') : wpList P ops Q (o :: rest) a w := by
  refine wpList_plain hg fun K' hK' => ?_
  obtain ⟨w', hrun, r1, r2⟩ := h.store R ht x v
  unfold Oper.wp
  simp [execOp, hop, hm, hk, he, hrun, Result.andThen]
  exact hK' _ _ (hK w' r1 r2)
/-- Block r goes over the map in block b; these entries are still to come, in whatever order. -/
def RangeAt (enc : α → Value) (val : β → Value) (w : World) (b r : Nat) (l todo : List (α × β)) : Prop :=
  ∃ (es : Array MapEntry) (clock since : Nat) (seen : Array Nat) (c0 : Nat), w.heap[b]? = some (.map es clock) ∧ es.toList.map (fun e => (e.key, e.val)) = l.map (fun p => (enc p.1, val p.2)) ∧ (es.toList.map (·.born)).Nodup ∧ (∀ e ∈ es.toList, e.born < clock) ∧
    w.heap[r]? = some (.mapIter (some b) since seen c0) ∧ (∀ e ∈ es.toList, e.born < since) ∧ since ≤ c0 ∧ since ≤ clock ∧ (leftOf es seen).toList.map (fun e => (e.key, e.val)) = todo.map (fun p => (enc p.1, val p.2))
theorem RangeAt.stm (h : RangeAt enc val w b r l todo) : StmAt enc val w b l := by
  obtain ⟨es, clock, since, seen, c0, h1, h2, h3, h4, -⟩ := h
  exact ⟨es, clock, h1, h2, h3, h4⟩
theorem RangeAt.ne (h : RangeAt enc val w b r l todo) : r ≠ b := by
  obtain ⟨es, clock, since, seen, c0, h1, -, -, -, h5, -⟩ := h
  intro e
  rw [e, h1] at h5
  cases h5
theorem RangeAt.lt (h : RangeAt enc val w b r l todo) : r < w.heap.size := by
  obtain ⟨es, clock, since, seen, c0, h1, -, -, -, h5, -⟩ := h
  exact (Array.getElem?_eq_some_iff.1 h5).1
theorem RangeAt.left_eq (h : RangeAt enc val w b r l todo) : w.rangeLeft b r = todo.length := by
  obtain ⟨es, clock, since, seen, c0, h1, -, -, -, h5, -, -, -, h9⟩ := h
  simp only [World.rangeLeft, h1, h5]
  have := congrArg List.length h9
  simpa using this
theorem RangeAt.block (h : RangeAt enc val w b r l todo) (hb : w'.heap[b]? = w.heap[b]?) (hr : w'.heap[r]? = w.heap[r]?) : RangeAt enc val w' b r l todo := by
  obtain ⟨es, clock, since, seen, c0, h1, h2, h3, h4, h5, rest⟩ := h
  exact ⟨es, clock, since, seen, c0, hb.trans h1, h2, h3, h4, hr.trans h5, rest⟩
theorem RangeAt.later (h : RangeAt enc val w b r l todo) (hb : Below w.heap.size w w') : RangeAt enc val w' b r l todo := h.block (hb.block _ h.stm.lt) (hb.block _ h.lt)
theorem RangeAt.kept {row : Option Nat} (h : RangeAt enc val w b r l todo) (hg : w.grownBy w' row) (hb : some b ≠ row) (hr : some r ≠ row) : RangeAt enc val w' b r l todo := h.block (hg.block _ h.stm.lt hb) (hg.block _ h.lt hr)
theorem RangeAt.below {B : Nat} (h : RangeAt enc val w b r l todo) (hb : Below B w w') (hB : b < B) (hR : r < B) : RangeAt enc val w' b r l todo := h.block (hb.block _ hB) (hb.block _ hR)
/-- 'range m'. -/
theorem StmAt.range (h : StmAt enc val w b l) (ht : P.underlying T = some (.map K E)) :
    ∃ w', (Instr.range T (.map (some b))).run P w = .ok (.pointer (some ⟨w.heap.size, 0, none⟩)) w' ∧ RangeAt enc val w' b w.heap.size l l ∧ Below w.heap.size w w' ∧ w'.heap.size = w.heap.size + 1 := by
  have hlt := h.lt
  obtain ⟨es, clock, hb, hl, hn, hc⟩ := h
  exact ⟨_, run_range_map w T K E b es clock ht hb, ⟨es, clock, clock, #[], clock, (Below.heap_alloc w _ b hlt).trans hb, hl, hn, hc, heap_alloc_new w _, hc, Nat.le_refl _, Nat.le_refl _, by rw [show leftOf es #[] = es by simp [leftOf]]; exact hl⟩, (Below.refl _ _).alloc (Nat.le_refl _) _, by simp⟩
private theorem filter_split {γ : Type} {p q : γ → Bool} {e : γ} : ∀ {L A B : List γ}, L.filter p = A ++ e :: B → L.Nodup → q e = false → (∀ x ∈ L, x ≠ e → q x = p x) → L.filter q = A ++ B
  | [], A, B, h, _, _, _ => by
    have := congrArg List.length h
    simp at this
  | y :: L, A, B, h, hn, he, hq => by
    rw [List.nodup_cons] at hn
    have hqL : ∀ x ∈ L, x ≠ e → q x = p x := fun x hx => hq x (List.mem_cons_of_mem _ hx)
    have hmem : e ∈ (y :: L).filter p := by rw [h]; simp
    rw [List.filter_cons] at h ⊢
    by_cases hye : y = e
    · subst hye
      rw [he]
      have hpy : p y = true := (List.mem_filter.1 hmem).2
      rw [hpy] at h
      simp only [if_true] at h
      simp only [Bool.false_eq_true, if_false]
      have hno : y ∉ L.filter p := fun hx => hn.1 (List.mem_filter.1 hx).1
      cases A with
      | nil =>
        simp only [List.nil_append, List.cons.injEq, true_and] at h
        rw [List.nil_append, ← h]
        exact List.filter_congr fun x hx => hqL x hx (fun e => hn.1 (e ▸ hx))
      | cons z A =>
        simp only [List.cons_append, List.cons.injEq] at h
        exact absurd (by rw [h.2]; simp) hno
    · rw [hq y (List.mem_cons_self ..) hye]
      cases hp : p y
      · rw [hp] at h
        simp only [Bool.false_eq_true, if_false] at h ⊢
        exact filter_split h hn.2 he hqL
      · rw [hp] at h
        simp only [if_true] at h ⊢
        cases A with
        | nil =>
          simp only [List.nil_append, List.cons.injEq] at h
          exact absurd h.1 hye
        | cons z A =>
          simp only [List.cons_append, List.cons.injEq] at h
          obtain ⟨rfl, h⟩ := h
          rw [filter_split h hn.2 he hqL, List.cons_append]
theorem left_split {es : Array MapEntry} {seen : Array Nat} {e : MapEntry} {A B : List MapEntry} (hn : (es.toList.map (·.born)).Nodup) (h : (leftOf es seen).toList = A ++ e :: B) : (leftOf es (seen.push e.born)).toList = A ++ B := by
  have hes : e ∈ es.toList := (mem_left (seen := seen) (by rw [h]; simp)).1
  have hinj : ∀ x ∈ es.toList, ∀ y ∈ es.toList, x.born = y.born → x = y := fun x hx y hy hxy => born_inj hn hx hy hxy
  have hnd : es.toList.Nodup := (List.pairwise_map.1 hn).imp (fun h e => h (by rw [e]))
  unfold leftOf at h ⊢
  rw [Array.toList_filter] at h ⊢
  refine filter_split h hnd (by rw [contains_push]; simp) fun x hx hxe => ?_
  rw [contains_push, Bool.not_or]
  have : (x.born == e.born) = false := by
    rw [beq_eq_false_iff_ne]
    exact fun h => hxe (hinj x hx e hes h)
  rw [this]
  simp
/-- The step. -/
theorem RangeAt.next (h : RangeAt enc val w b r l todo) (ty : TypeId) :
    (todo = [] ∧ (Instr.next (.pointer (some ⟨r, 0, none⟩)) false ty).run P w = .ok (.tuple #[.bool false]) w) ∨
    ∃ A p B w', todo = A ++ p :: B ∧ (Instr.next (.pointer (some ⟨r, 0, none⟩)) false ty).run P w = .ok (.tuple #[.bool true, enc p.1, val p.2]) w' ∧ RangeAt enc val w' b r l (A ++ B) ∧ w.grownBy w' (some r) ∧ w'.heap.size = w.heap.size ∧
      (Instr.entry (.pointer (some ⟨r, 0, none⟩))).run P w' = .ok (.tuple #[enc p.1, val p.2]) w' := by
  have hne := h.ne
  obtain ⟨es, clock, since, seen, c0, hb, hl, hn, hc, hr, hold, hsc, hsk, htd⟩ := h
  rcases run_next_at (P := P) w ty r b since c0 seen es clock hr hb hold hsc with ⟨h0, hrun⟩ | ⟨e, he, w1, hal, hrun⟩
  · left
    refine ⟨?_, hrun⟩
    have := congrArg List.length htd
    simp only [List.length_map, Array.length_toList, h0] at this
    exact List.length_eq_zero_iff.1 this.symm
  · right
    obtain ⟨hem, hes⟩ := mem_left he
    obtain ⟨A', B', hAB⟩ := List.append_of_mem he
    have hsp := left_split hn hAB
    rw [hAB, List.map_append, List.map_cons] at htd
    obtain ⟨A, R, rfl, hA, hR⟩ := List.map_eq_append_iff.1 htd.symm
    obtain ⟨p, B, rfl, hp, hB⟩ := List.map_eq_cons_iff.1 hR
    have hr1 : w1.heap[r]? = some (.mapIter (some b) since seen c0) := by rcases hal with rfl | rfl <;> exact hr
    have hb1 : w1.heap[b]? = some (.map es clock) := by rcases hal with rfl | rfl <;> exact hb
    have hset := Go.MapKept.heap_set (o' := .mapIter (some b) since (seen.push e.born) clock) hr1
    have hb' : (setBlock w1 r (.mapIter (some b) since (seen.push e.born) clock)).heap[b]? = some (.map es clock) := (hset.2 b (fun e1 => hne e1.symm)).trans hb1
    have hk : e.key = enc p.1 := (congrArg Prod.fst hp).symm
    have hv : e.val = val p.2 := (congrArg Prod.snd hp).symm
    have hent := run_entry_at (P := P) _ r b since seen es clock e hset.1 hb' hem hn
    rw [hk, hv] at hrun hent
    refine ⟨A, p, B, _, rfl, hrun, ⟨es, clock, since, seen.push e.born, clock, hb', hl, hn, hc, hset.1, hold, hsk, hsk, ?_⟩, ?_, ?_, hent⟩
    · rw [hsp, List.map_append, List.map_append, hA, hB]
    · rcases hal with rfl | rfl <;> exact ⟨rfl, rfl, rfl, by simp [setBlock], fun i _ hi => hset.2 i (fun e1 => hi (by rw [e1]))⟩
    · rcases hal with rfl | rfl <;> simp [setBlock]
/-- 'range m' at the operation. -/
theorem wpList_rangeS {ops : Array Oper} {rest : List Oper} {o : Oper} {a : Act} {Q : Exit → Act → World → Prop} (hg : o.guard = none) (m : Operand) (T : TypeId) (hop : o.op = Op.range T m) (ht : P.underlying T = some (.map K E)) (hm : a.eval m = .map (some b)) (h : StmAt enc val w b l)
    (hK : ∀ w', RangeAt enc val w' b w.heap.size l l → Below w.heap.size w w' → w'.heap.size = w.heap.size + 1 → wpList P ops Q rest (a.put o.dst (.pointer (some ⟨w.heap.size, 0, none⟩))) w') : wpList P ops Q (o :: rest) a w := by
  refine wpList_plain hg fun K' hK' => ?_
  obtain ⟨w', hrun, r1, r2, r3⟩ := h.range ht
  unfold Oper.wp
  simp [execOp, hop, hm, hrun, Result.andThen]
  exact hK' _ _ (hK w' r1 r2 r3)
/-- The step at the operation: nothing is left, or some entry comes. -/
theorem wpList_nextS {ops : Array Oper} {rest : List Oper} {o : Oper} {a : Act} {Q : Exit → Act → World → Prop} (hg : o.guard = none) (it : Operand) (hop : o.op = Op.next it false) (hit : a.eval it = .pointer (some ⟨r, 0, none⟩)) (h : RangeAt enc val w b r l todo)
    (hDone : todo = [] → wpList P ops Q rest (a.put o.dst (.tuple #[.bool false])) w)
    (hMore : ∀ (A : List (α × β)) (x : α) (y : β) (B : List (α × β)) (w' : World), todo = A ++ (x, y) :: B → RangeAt enc val w' b r l (A ++ B) → w.grownBy w' (some r) → w'.heap.size = w.heap.size → (Instr.entry (.pointer (some ⟨r, 0, none⟩))).run P w' = .ok (.tuple #[enc x, val y]) w' →
      wpList P ops Q rest (a.put o.dst (.tuple #[.bool true, enc x, val y])) w') : wpList P ops Q (o :: rest) a w := by
  refine wpList_plain hg fun K' hK' => ?_
  unfold Oper.wp
  rcases h.next (P := P) o.type with ⟨h0, hrun⟩ | ⟨A, ⟨x, y⟩, B, w', h1, hrun, h2, h3, h4, h5⟩
  · simp [execOp, hop, hit, hrun, Result.andThen]
    exact hK' _ _ (hDone h0)
  · simp [execOp, hop, hit, hrun, Result.andThen]
    exact hK' _ _ (hMore A x y B w' h1 h2 h3 h4 h5)
/-- The keys that have come, with those still to come, are the map's keys. -/
theorem keys_step {T : List α} {A B : List (α × β)} {x : α} {y : β} {L : List α} (h : (T ++ (A ++ (x, y) :: B).map (·.1)).Perm L) : ((T ++ [x]) ++ (A ++ B).map (·.1)).Perm L := by
  refine List.Perm.trans ?_ h
  simp only [List.map_append, List.map_cons, List.append_assoc, List.cons_append, List.nil_append]
  exact List.Perm.append_left T List.perm_middle.symm
theorem keys_end {T L : List α} (h : (T ++ ([] : List (α × β)).map (·.1)).Perm L) : T.Perm L := by simpa using h
end
end Go.Proofs.Ytgkmapemnlgldaa
