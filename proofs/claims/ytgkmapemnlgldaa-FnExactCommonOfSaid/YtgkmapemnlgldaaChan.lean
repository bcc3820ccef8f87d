/- A channel that the call itself has made, in one goroutine where nothing waits: a send with room, a receive, a receive behind the close; of no program. -/
import Derived.Conc.LoneCalls
import Derived.Conc.LoneSelectN
import Derived.Test.YtgkmapemnlgldaaBoards
namespace Go.Proofs.Ytgkmapemnlgldaa
open Go.RowKit Go.Conc
set_option linter.unusedVariables false
section
variable {P : Program} {ops : Array Oper} {Q : Exit → Act → World → Prop} {a : Act} {w w' : World} {i : Nat} {rest : List Nat} {o : Oper}
/-- What a region's operations from here on lead to, by the machine's own steps. -/
def Sm (P : Program) (ops : Array Oper) (Q : Exit → Act → World → Prop) (l : List Nat) (a : Act) (w : World) : Prop :=
  ∀ (b : Frame) (k : List Item) (cs : List Frame), ∃ e a' w', Q e a' w' ∧ Arrives P (lone (b.at a (.inRegion ops l :: k)) cs w) b k cs e a' w'
theorem Sm.region {id : Nat} (h : Sm P ops Q (List.range ops.size) a w) : (Code.region id ops false).wp P Q a w :=
  fun b k cs => let ⟨e, a', w', q, r⟩ := h b k cs; ⟨e, a', w', q, .of_steps (.one step_region) r⟩
theorem Sm.nil (h : Q .normal a w) : Sm P ops Q [] a w := fun b k cs => ⟨.normal, a, w, h, .one step_region_end⟩
theorem Sm.value {v : Value} (ho : ops[i]? = some o) (hw : Region.wanted o (yielded ops a.tmps) = true) (hr : (execOp a.eval o).run P w = .ok (.value v) w')
    (h : Sm P ops Q rest (a.put o.dst v) w') : Sm P ops Q (i :: rest) a w := by
  intro b k cs
  have hg := stepG_op (P := P) (b := b) (k := k) (cs := cs) (w := w) (rest := rest) ho hw
  have hfin : (b.at a (.inRegion ops (i :: rest) :: k)).finish v = b.at (a.put o.dst v) (.inRegion ops rest :: k) := by
    rw [Frame.finish_at, ho]; rfl
  obtain ⟨e, a', w'', hq, harr⟩ := h b k cs
  refine ⟨e, a', w'', hq, .of_steps (.one (step_lone_go ?_)) harr⟩
  rw [hg, ← hfin]; simp [stepG.apply, hr]
theorem stepG_comm' {cases : Array CommCase} {blocking : Bool} {shape : CommShape} (b : Frame) (k : List Item) (cs : List Frame) (ho : ops[i]? = some o) (hw : Region.wanted o (yielded ops a.tmps) = true) (hr : (execOp a.eval o).run P w = .ok (.comm cases blocking shape) w') :
    ∃ es, stepG P true (G (b.at a (.inRegion ops (i :: rest) :: k)) cs) w = .comm (G (b.at a (.inRegion ops (i :: rest) :: k)) cs) cases blocking shape w' es := by
  rw [stepG_oper ho hw]
  simp only [stepG.apply, Sem.runT_eq, hr, if_true, GStep.after, G]
  exact ⟨_, rfl⟩
theorem Sm.send {c cap s r : Nat} {buf : Array Value} {v z : Value} {tm : Bool} (ho : ops[i]? = some o) (hw : Region.wanted o (yielded ops a.tmps) = true)
    (hr : (execOp a.eval o).run P w = .ok (.comm #[scase c v z] true .send) w) (hc : w.heap[c]? = some (.chan cap buf false s r tm)) (hroom : buf.size < cap)
    (h : Sm P ops Q rest (a.put o.dst undef) (w.setChan c cap (buf.push v) false (s + 1) r tm)) : Sm P ops Q (i :: rest) a w := by
  intro b k cs
  obtain ⟨es, hs⟩ := stepG_comm' (rest := rest) b k cs ho hw hr
  have hfin : (b.at a (.inRegion ops (i :: rest) :: k)).finish undef = b.at (a.put o.dst undef) (.inRegion ops rest :: k) := by
    rw [Frame.finish_at, ho]; rfl
  obtain ⟨e, a', w'', hq, harr⟩ := h b k cs
  refine ⟨e, a', w'', hq, .of_steps (.one ?_) harr⟩
  have := step_lone_send_room hs hc hroom
  rw [hfin] at this
  exact this
theorem Sm.recv {c cap s r : Nat} {buf : Array Value} {z : Value} {tm closed : Bool} (ok : Bool) (ho : ops[i]? = some o) (hw : Region.wanted o (yielded ops a.tmps) = true)
    (hr : (execOp a.eval o).run P w = .ok (.comm #[rcase c z] true (.recv ok)) w) (hc : w.heap[c]? = some (.chan cap buf closed s r tm)) (hsome : 0 < buf.size)
    (h : Sm P ops Q rest (a.put o.dst (got ok (buf.getD 0 undef) true)) (w.setChan c cap (buf.extract 1 buf.size) closed s (r + 1) tm)) : Sm P ops Q (i :: rest) a w := by
  intro b k cs
  obtain ⟨es, hs⟩ := stepG_comm' (rest := rest) b k cs ho hw hr
  have hfin : (b.at a (.inRegion ops (i :: rest) :: k)).finish (got ok (buf.getD 0 undef) true) = b.at (a.put o.dst (got ok (buf.getD 0 undef) true)) (.inRegion ops rest :: k) := by
    rw [Frame.finish_at, ho]; rfl
  obtain ⟨e, a', w'', hq, harr⟩ := h b k cs
  refine ⟨e, a', w'', hq, .of_steps (.one ?_) harr⟩
  have := step_lone_recv_buf ok hs hc hsome
  rw [hfin] at this
  exact this
theorem Sm.recv_shut {c cap s r : Nat} {z : Value} {tm : Bool} (ok : Bool) (ho : ops[i]? = some o) (hw : Region.wanted o (yielded ops a.tmps) = true)
    (hr : (execOp a.eval o).run P w = .ok (.comm #[rcase c z] true (.recv ok)) w) (hc : w.heap[c]? = some (.chan cap #[] true s r tm))
    (h : Sm P ops Q rest (a.put o.dst (got ok z false)) w) : Sm P ops Q (i :: rest) a w := by
  intro b k cs
  obtain ⟨es, hs⟩ := stepG_comm' (rest := rest) b k cs ho hw hr
  have hfin : (b.at a (.inRegion ops (i :: rest) :: k)).finish (got ok z false) = b.at (a.put o.dst (got ok z false)) (.inRegion ops rest :: k) := by
    rw [Frame.finish_at, ho]; rfl
  obtain ⟨e, a', w'', hq, harr⟩ := h b k cs
  refine ⟨e, a', w'', hq, .of_steps (.one ?_) harr⟩
  have := step_lone_recv_shut ok hs hc
  rw [hfin] at this
  exact this
end
section
variable {P : Program} {Q : Exit → Act → World → Prop} {a : Act} {w : World}
theorem exec_move {o : Oper} {x : Operand} {ρ : Operand → Value} (p : o.op = .move x) : (execOp ρ o).run P w = .ok (.value (ρ x)) w := by
  cases o with | mk dst op type pos after guard => cases p; simp [execOp, go_sem]
theorem exec_send {o : Oper} {x y : Operand} {c : Nat} {v : Value} {ρ : Operand → Value} (p : o.op = .send x y) (e0 : ρ x = .chan (some c)) (e1 : ρ y = v) : (execOp ρ o).run P w = .ok (.comm #[scase c v (.tuple #[])] true .send) w := by
  cases o with | mk dst op type pos after guard => cases p; simp [execOp, go_sem, scase, e0, e1]
theorem exec_recv {o : Oper} {x : Operand} {c : Nat} {z : Value} {t e : TypeId} {dir : ChanDir} {ρ : Operand → Value} {ok : Bool} (p : o.op = .recv t x ok) (ht : P.underlying t = some (.chan dir e)) (hz : (zeroValue e).run P w = .ok z w) (e0 : ρ x = .chan (some c)) : (execOp ρ o).run P w = .ok (.comm #[rcase c z] true (.recv ok)) w := by
  cases o with | mk dst op type pos after guard => cases p; simp [execOp, go_sem, rcase, e0, run_underlying ht, hz]
theorem exec_ok {o : Oper} {x : Operand} {v : Value} {b : Bool} {ρ : Operand → Value} (p : o.op = .extract x 1) (e1 : ρ x = .tuple #[v, .bool b]) : (execOp ρ o).run P w = .ok (.value (.bool b)) w := by
  cases o with | mk dst op type pos after guard => cases p; simp [execOp, go_sem, e1]
theorem wanted_plain {o : Oper} {f : Nat → Option Bool} (g : o.guard = none) : Region.wanted o f = true := by simp [Region.wanted, g]
/-- 'ch <- v': two moves and the send. -/
theorem wp_send {id : Nat} {o0 o1 o2 : Oper} {x0 x1 y0 y1 : Operand} {c cap s r : Nat} {buf : Array Value} {v : Value} {tm : Bool}
    (g0 : o0.guard = none) (g1 : o1.guard = none) (g2 : o2.guard = none) (p0 : o0.op = .move x0) (p1 : o1.op = .move x1) (p2 : o2.op = .send y0 y1) {a1 a2 : Act}
    (h1 : a.put o0.dst (a.eval x0) = a1) (h2 : a1.put o1.dst (a1.eval x1) = a2) (e0 : a2.eval y0 = .chan (some c)) (e1 : a2.eval y1 = v)
    (hc : w.heap[c]? = some (.chan cap buf false s r tm)) (hroom : buf.size < cap)
    (h : Q .normal (a2.put o2.dst undef) (w.setChan c cap (buf.push v) false (s + 1) r tm)) : (Code.region id #[o0, o1, o2] false).wp P Q a w := by
  refine Sm.region ?_
  show Sm P #[o0, o1, o2] Q [0, 1, 2] a w
  refine Sm.value (o := o0) rfl (wanted_plain g0) (exec_move p0) ?_
  rw [h1]
  refine Sm.value (o := o1) rfl (wanted_plain g1) (exec_move p1) ?_
  rw [h2]
  refine Sm.send (o := o2) (z := .tuple #[]) (v := v) rfl (wanted_plain g2) (exec_send p2 e0 e1) hc hroom (Sm.nil h)
/-- 'v, ok := <-ch' and what of 'ok': the receive and one extract. -/
theorem wp_recv_buf {id : Nat} {o0 o1 : Oper} {y1 : Operand} {c cap s r : Nat} {buf : Array Value} {z v : Value} {tm closed : Bool}
    (g0 : o0.guard = none) (g1 : o1.guard = none) (p1 : o1.op = .extract y1 1) (hr : (execOp a.eval o0).run P w = .ok (.comm #[rcase c z] true (.recv true)) w)
    (hc : w.heap[c]? = some (.chan cap buf closed s r tm)) (hs : 0 < buf.size) (hv : buf.getD 0 undef = v) {a1 : Act}
    (h1 : a.put o0.dst (.tuple #[v, .bool true]) = a1) (e1 : a1.eval y1 = .tuple #[v, .bool true])
    (h : Q .normal (a1.put o1.dst (.bool true)) (w.setChan c cap (buf.extract 1 buf.size) closed s (r + 1) tm)) : (Code.region id #[o0, o1] false).wp P Q a w := by
  refine Sm.region ?_
  show Sm P #[o0, o1] Q [0, 1] a w
  refine Sm.recv (o := o0) true rfl (wanted_plain g0) hr hc hs ?_
  rw [hv, show got true v true = .tuple #[v, .bool true] from rfl, h1]
  refine Sm.value (o := o1) (v := .bool true) rfl (wanted_plain g1) (exec_ok p1 e1) (Sm.nil h)
theorem wp_recv_shut {id : Nat} {o0 o1 : Oper} {y1 : Operand} {c cap s r : Nat} {z : Value} {tm : Bool}
    (g0 : o0.guard = none) (g1 : o1.guard = none) (p1 : o1.op = .extract y1 1) (hr : (execOp a.eval o0).run P w = .ok (.comm #[rcase c z] true (.recv true)) w)
    (hc : w.heap[c]? = some (.chan cap #[] true s r tm)) {a1 : Act}
    (h1 : a.put o0.dst (.tuple #[z, .bool false]) = a1) (e1 : a1.eval y1 = .tuple #[z, .bool false])
    (h : Q .normal (a1.put o1.dst (.bool false)) w) : (Code.region id #[o0, o1] false).wp P Q a w := by
  refine Sm.region ?_
  show Sm P #[o0, o1] Q [0, 1] a w
  refine Sm.recv_shut (o := o0) true rfl (wanted_plain g0) hr hc ?_
  rw [show got true z false = .tuple #[z, .bool false] from rfl, h1]
  refine Sm.value (o := o1) (v := .bool false) rfl (wanted_plain g1) (exec_ok p1 e1) (Sm.nil h)
end
/-- The channel's block: its capacity, what waits in it, whether it is closed; no timer feeds it. -/
def ChanAt (c cap : Nat) (buf : List Value) (closed : Bool) (w : World) : Prop := ∃ s r, w.heap[c]? = some (.chan cap buf.toArray closed s r false)
theorem chan_new (w : World) (n : Nat) : ChanAt w.heap.size n [] false (w.alloc (.chan n #[] false 0 0 false)) := ⟨0, 0, by simpa using heap_alloc_new w (.chan n #[] false 0 0 false)⟩
theorem ChanAt.turn {c cap : Nat} {buf : List Value} {cl : Bool} {w w' : World} (h : ChanAt c cap buf cl w) (e : w'.heap[c]? = w.heap[c]?) : ChanAt c cap buf cl w' := by
  obtain ⟨s, r, hc⟩ := h; exact ⟨s, r, e.trans hc⟩
theorem ChanAt.lt {c cap : Nat} {buf : List Value} {cl : Bool} {w : World} (h : ChanAt c cap buf cl w) : c < w.heap.size := by
  obtain ⟨s, r, hc⟩ := h
  exact (Array.getElem?_eq_some_iff.1 hc).1
theorem chan_set {w : World} {c cap : Nat} (buf : List Value) (cl : Bool) (s r : Nat) (h : c < w.heap.size) : ChanAt c cap buf cl (w.setChan c cap buf.toArray cl s r false) := ⟨s, r, heap_setChan w c cap _ cl s r false h⟩
/-- What waits in order: the numbers of a list from k on. -/
def waits (T : List Nat) (k : Nat) : List Value := (T.drop k).map fun (q : Nat) => Value.int .i64 (q : Int)
theorem waits_len (T : List Nat) (k : Nat) : (waits T k).length = T.length - k := by simp [waits]
theorem waits_push {T : List Nat} {k : Nat} (r : Nat) (h : k ≤ T.length) : ((waits T k).toArray.push (.int .i64 (r : Int))) = (waits (T ++ [r]) k).toArray := by
  simp [waits, List.drop_append_of_le_length h]
theorem waits_next (T : List Nat) (k : Nat) : (waits T k).toArray.extract 1 (waits T k).toArray.size = (waits T (k + 1)).toArray := by
  apply Array.toList_inj.1
  simp only [waits, List.extract_toArray, List.size_toArray, List.extract_eq_take_drop, ← List.map_drop, List.drop_drop]
  refine List.take_of_length_le ?_
  simp
  omega
theorem waits_head {T : List Nat} {k q : Nat} (h : T[k]? = some q) : (waits T k).toArray.getD 0 undef = .int .i64 (q : Int) := by
  simp [waits, h]
theorem waits_none {T : List Nat} {k : Nat} (h : T.length ≤ k) : (waits T k).toArray = #[] := by
  simp [waits, List.drop_eq_nil_of_le h]
theorem own_turn {w w' : World} {b s n : Nat} {T : TypeId} {v : Value} {xs : List Value} (h : w.ownsRow b T s v n xs) (e : ∀ g, v.ownBlock = some g → w'.heap[g]? = w.heap[g]?) : w'.ownsRow b T s v n xs := by
  refine ⟨h.1, ?_⟩
  rcases h.2 with h1 | ⟨g, cap, cur, h1, h2, h3, rest⟩
  · exact .inl h1
  · refine .inr ⟨g, cap, cur, h1, h2, ?_, rest⟩
    rw [e g (by rw [h1]; rfl)]; exact h3
theorem set_other {w : World} {c cap j : Nat} {buf : Array Value} {cl : Bool} {s r : Nat} {tm : Bool} (h : j ≠ c) : (w.setChan c cap buf cl s r tm).heap[j]? = w.heap[j]? := by
  simp only [World.setChan]; rw [Array.getElem?_setIfInBounds_ne (fun e => h e.symm)]
end Go.Proofs.Ytgkmapemnlgldaa
