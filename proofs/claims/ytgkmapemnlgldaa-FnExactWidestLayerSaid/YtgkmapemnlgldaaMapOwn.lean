/- A map of the call's own with ints as keys, in the words in which the library's contracts ask for one; of no program. -/
import Derived.Test.YtgkmapemnlgldaaMapRange
import Derived.Lib.SlKeysI
import Derived.Maps.Own
namespace Go.Proofs.Ytgkmapemnlgldaa
open Go.RowKit Go.Maps
open Go.WideElems (Fit rd rg)
set_option linter.unusedVariables false
theorem stm_owns {β : Type} {P : Program} {K : TypeId} (hk : P.underlying K = some (.int .i64)) {val : β → Value} {w : World} {b : Nat} {l : List (Int × β)} (h : StmAt (Value.int .i64) val w b l) (hnd : (l.map (·.1)).Nodup) (hlen : l.length ≤ maxLen) (hwf : ∀ p ∈ l, (Lit.int .i64 p.1).wf = true) :
    ∃ D0 : DataW Unit, w.ownsMap P K (fun _ => some (.nil, [])) b l.length D0 ∧ (intKeys D0).Perm (l.map (·.1)) ∧ Maps.size D0 = l.length := by
  obtain ⟨es, clock, hb, hl, hn, hlt⟩ := h
  have hsz : es.size = l.length := by
    have := congrArg List.length hl
    simpa using this
  have hrd : ∀ x ∈ es.toList, ∃ p ∈ l, x.key = .int .i64 p.1 ∧ rd P K (fun _ => some ((.nil : DataW Unit), ([] : List MemPlace))) x = some (.int .i64 p.1, .nil) := fun x hx => by
    have h1 : (x.key, x.val) ∈ l.map (fun p => (Value.int .i64 p.1, val p.2)) := by rw [← hl]; exact List.mem_map.2 ⟨x, hx, rfl⟩
    obtain ⟨p, hp, hpe⟩ := List.mem_map.1 h1
    have h2 : x.key = .int .i64 p.1 := (congrArg Prod.fst hpe).symm
    exact ⟨p, hp, h2, by simp [rd, h2, keyOf_int_mk hk (hwf p hp)]⟩
  have hkeys : es.toList.map (·.key) = (l.map (·.1)).map (Value.int .i64) := by
    have := congrArg (List.map Prod.fst) hl
    simpa [List.map_map, Function.comp_def] using this
  have hrg : (es.toList.map (rg P K (fun _ => some ((.nil : DataW Unit), ([] : List MemPlace))))).map (fun p => intOf p.1) = l.map (·.1) := by
    have h1 : (es.toList.map (rg P K (fun _ => some ((.nil : DataW Unit), ([] : List MemPlace))))).map (fun p => intOf p.1) = (es.toList.map (·.key)).map (fun v => match v with | .int _ a => a | _ => 0) := by
      rw [List.map_map, List.map_map]
      refine List.map_congr_left fun x hx => ?_
      obtain ⟨p, -, h2, h3⟩ := hrd x hx
      simp [rg, h2, h3, intOf]
    rw [h1, hkeys, List.map_map]
    exact (List.map_congr_left fun x _ => rfl).trans (List.map_id _)
  refine ⟨_, ⟨es, clock, hb, ⟨by omega, ⟨hlt, hn, ?_⟩, fun x hx => ?_⟩, by omega, rfl⟩, ?_, ?_⟩
  · rw [hkeys]
    exact List.pairwise_map.2 (hnd.imp fun hne e => hne (by cases e; rfl))
  · obtain ⟨p, -, -, h3⟩ := hrd x hx
    exact ⟨_, h3⟩
  · rw [← hrg]
    exact (Go.WideShapes.sorted_perm _).map _
  · show List.length _ = _
    rw [(Go.WideShapes.sorted_perm _).length_eq, List.length_map, Array.length_toList, hsz]
/-- Looking up a key where all values are true. -/
theorem get_true {α : Type} [DecidableEq α] {l : List (α × Bool)} (h : ∀ p ∈ l, p.2 = true) (x : α) : ((getM l x).map Value.bool).getD (.bool false) = .bool (decide (x ∈ l.map (·.1))) := by
  induction l with
  | nil => simp [getM]
  | cons p l ih =>
    unfold getM
    by_cases hx : p.1 = x
    · simp [hx, h p (List.mem_cons_self ..)]
    · have hx' : ¬ x = p.1 := fun e => hx e.symm
      rw [if_neg hx, ih (fun q hq => h q (List.mem_cons_of_mem _ hq))]
      simp [hx']
end Go.Proofs.Ytgkmapemnlgldaa
