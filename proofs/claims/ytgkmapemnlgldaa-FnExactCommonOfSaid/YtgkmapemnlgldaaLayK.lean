/- Layers as maps of the call's own: a number more, whether or not it is there; their numbers one by one; their count. Of no program. -/
import Derived.Test.YtgkmapemnlgldaaBackS
import Derived.Test.YtgkmapemnlgldaaLayMath
namespace Go.Proofs.Ytgkmapemnlgldaa
open Go.RowKit Go.Maps
set_option linter.unusedVariables false
set_option linter.unusedSimpArgs false
/-- A number more, unless it is there. -/
def putN (T : List Nat) (x : Nat) : List Nat := if x ∈ T then T else T ++ [x]
theorem mem_putN {T : List Nat} {x q : Nat} : q ∈ putN T x ↔ q ∈ T ∨ q = x := by
  unfold putN
  split
  · next h => exact ⟨.inl, fun h' => h'.elim id (fun e => by rw [e]; exact h)⟩
  · simp
theorem putN_nodup {T : List Nat} {x : Nat} (h : T.Nodup) : (putN T x).Nodup := by
  unfold putN
  split
  · exact h
  · next hx =>
    refine List.nodup_append.2 ⟨h, by simp, fun a ha b hb => ?_⟩
    rw [List.mem_singleton.1 hb]
    intro e
    exact hx (by rw [← e]; exact ha)
theorem mem_zl {T : List Nat} {x : Nat} : (x : Int) ∈ zl T ↔ x ∈ T := by
  simp only [zl, List.mem_map]
  exact ⟨fun ⟨a, ha, e⟩ => by obtain rfl : a = x := by omega
                              exact ha, fun h => ⟨x, h, rfl⟩⟩
theorem zl_put (T : List Nat) (x : Nat) : zl (putN T x) = if (x : Int) ∈ zl T then zl T else zl T ++ [(x : Int)] := by
  unfold putN
  by_cases h : x ∈ T
  · rw [if_pos h, if_pos (mem_zl.2 h)]
  · rw [if_neg h, if_neg (fun e => h (mem_zl.1 e))]
    simp [zl]
theorem put_true {α : Type} [DecidableEq α] {l : List (α × Bool)} (h : ∀ p ∈ l, p.2 = true) (x : α) : ∀ p ∈ putM l x true, p.2 = true := by
  induction l with
  | nil =>
    intro p hp
    simp [putM] at hp
    rw [hp]
  | cons q l ih =>
    intro p hp
    unfold putM at hp
    split at hp
    · rcases List.mem_cons.1 hp with hp | hp
      · rw [hp]
      · exact h p (List.mem_cons_of_mem _ hp)
    · rcases List.mem_cons.1 hp with hp | hp
      · rw [hp]; exact h _ (List.mem_cons_self ..)
      · exact ih (fun r hr => h r (List.mem_cons_of_mem _ hr)) p hp
section
variable {P : Program} {K E T : TypeId} {w w' : World} {b r : Nat} {xs todo : List Nat}
/-- 'm[k] = true'. -/
theorem KeysAt.put (h : KeysAt w b xs) (R : KeyRun P K (Value.int .i64)) (ht : P.underlying T = some (.map K E)) (x : Nat) : ∃ w', (Instr.mapUpdate T (.map (some b)) (.int .i64 (x : Int)) (.bool true)).run P w = .ok () w' ∧ KeysAt w' b (putN xs x) ∧ w.grownBy w' (some b) := by
  obtain ⟨l, h1, h2, h3⟩ := h
  obtain ⟨w', hr, hs, hg⟩ := h1.store R ht (x : Int) true
  exact ⟨w', hr, ⟨_, hs, by rw [keys_put, h2, zl_put], put_true h3 _⟩, hg⟩
theorem KeysAt.made (w : World) : KeysAt (w.alloc (.map #[] 0)) w.heap.size [] := ⟨[], StmAt.made _ _ w, rfl, fun p hp => absurd hp (by simp)⟩
theorem KeysAt.later (h : KeysAt w b xs) (hb : Below w.heap.size w w') : KeysAt w' b xs := h.block (hb.block b h.lt)
theorem KeysAt.kept {row : Option Nat} (h : KeysAt w b xs) (hg : w.grownBy w' row) (hne : some b ≠ row) : KeysAt w' b xs := h.block (hg.block b h.lt hne)
/-- 'len(m)'. -/
theorem KeysAt.len (h : KeysAt w b xs) : ∃ (es : Array MapEntry) (clock : Nat), w.heap[b]? = some (.map es clock) ∧ es.size = xs.length := by
  obtain ⟨l, ⟨es, clock, h1, h2, -⟩, h3, -⟩ := h
  refine ⟨es, clock, h1, ?_⟩
  have e1 := congrArg List.length h2
  have e2 := congrArg List.length h3
  rw [zl_len] at e2
  simp at e1 e2
  omega
/-- Block r goes over the layer in block b; these numbers are still to come. -/
def KeysLeft (w : World) (b r : Nat) (xs todo : List Nat) : Prop := ∃ l t, RangeAt (Value.int .i64) Value.bool w b r l t ∧ l.map (·.1) = zl xs ∧ t.map (·.1) = zl todo ∧ ∀ p ∈ l, p.2 = true
theorem KeysLeft.keys (h : KeysLeft w b r xs todo) : KeysAt w b xs := by
  obtain ⟨l, t, h1, h2, h3, h4⟩ := h
  exact ⟨l, h1.stm, h2, h4⟩
theorem KeysLeft.ne (h : KeysLeft w b r xs todo) : r ≠ b := by
  obtain ⟨l, t, h1, -⟩ := h
  exact h1.ne
theorem KeysLeft.lt (h : KeysLeft w b r xs todo) : r < w.heap.size := by
  obtain ⟨l, t, h1, -⟩ := h
  exact h1.lt
theorem KeysLeft.left_eq (h : KeysLeft w b r xs todo) : w.rangeLeft b r = todo.length := by
  obtain ⟨l, t, h1, -, h3, -⟩ := h
  rw [h1.left_eq]
  have := congrArg List.length h3
  rw [zl_len] at this
  simpa using this
theorem KeysLeft.later (h : KeysLeft w b r xs todo) (hb : Below w.heap.size w w') : KeysLeft w' b r xs todo := by
  obtain ⟨l, t, h1, h2⟩ := h
  exact ⟨l, t, h1.later hb, h2⟩
theorem KeysLeft.kept {row : Option Nat} (h : KeysLeft w b r xs todo) (hg : w.grownBy w' row) (hb : some b ≠ row) (hr : some r ≠ row) : KeysLeft w' b r xs todo := by
  obtain ⟨l, t, h1, h2⟩ := h
  exact ⟨l, t, h1.kept hg hb hr, h2⟩
/-- 'range m', as an equation for the walk. -/
theorem KeysAt.range (h : KeysAt w b xs) (ht : P.underlying T = some (.map K E)) : ∃ w', (Instr.range T (.map (some b))).run P w = .ok (.pointer (some ⟨w.heap.size, 0, none⟩)) w' ∧ KeysLeft w' b w.heap.size xs xs ∧ Below w.heap.size w w' ∧ w'.heap.size = w.heap.size + 1 := by
  obtain ⟨l, h1, h2, h3⟩ := h
  obtain ⟨w', r0, r1, r2, r3⟩ := h1.range ht
  exact ⟨w', r0, ⟨l, l, r1, h2, h2, h3⟩, r2, r3⟩
/-- The step: nothing is left, or some number comes. -/
theorem KeysLeft.next (h : KeysLeft w b r xs todo) (ty : TypeId) :
    (todo = [] ∧ (Instr.next (.pointer (some ⟨r, 0, none⟩)) false ty).run P w = .ok (.tuple #[.bool false]) w) ∨
    ∃ (A : List Nat) (q : Nat) (v : Bool) (B : List Nat) (w' : World), todo = A ++ q :: B ∧ (Instr.next (.pointer (some ⟨r, 0, none⟩)) false ty).run P w = .ok (.tuple #[.bool true, .int .i64 (q : Int), .bool v]) w' ∧ KeysLeft w' b r xs (A ++ B) ∧ w.grownBy w' (some r) ∧ w'.heap.size = w.heap.size ∧
      (Instr.entry (.pointer (some ⟨r, 0, none⟩))).run P w' = .ok (.tuple #[.int .i64 (q : Int), .bool v]) w' := by
  obtain ⟨l, t, h1, h2, h3, h4⟩ := h
  rcases h1.next (P := P) ty with ⟨e, hr⟩ | ⟨A, ⟨x, v⟩, B, w', e, hr, r1, r2, r3, r4⟩
  · left
    subst e
    have := congrArg List.length h3
    rw [zl_len] at this
    exact ⟨List.eq_nil_of_length_eq_zero (by simpa using this.symm), hr⟩
  · right
    subst e
    rw [List.map_append, List.map_cons] at h3
    obtain ⟨A', R, e1, hA, hR⟩ := List.map_eq_append_iff.1 h3.symm
    obtain ⟨q, B', e2, hq, hB⟩ := List.map_eq_cons_iff.1 hR
    have hq' : (q : Int) = x := hq
    subst hq'
    exact ⟨A', q, v, B', w', by rw [e1, e2], hr, ⟨l, A ++ B, r1, h2, by rw [List.map_append, ← hA, ← hB]; simp [zl], h4⟩, r2, r3, r4⟩
end
/-- The numbers that have come, with those still to come, are the layer's. -/
theorem left_step {D A B L : List Nat} {q : Nat} (h : (D ++ (A ++ q :: B)).Perm L) : ((D ++ [q]) ++ (A ++ B)).Perm L := by
  refine List.Perm.trans ?_ h
  rw [List.append_assoc]
  refine List.Perm.append_left D ?_
  rw [List.singleton_append]
  exact List.perm_middle.symm
theorem same_len {T L : List Nat} (hT : T.Nodup) (hL : L.Pairwise (· < ·)) (h : ∀ q, q ∈ T ↔ q ∈ L) : T.length = L.length :=
  ((List.perm_ext_iff_of_nodup hT (hL.imp (fun h => Nat.ne_of_lt h))).2 h).length_eq
end Go.Proofs.Ytgkmapemnlgldaa
