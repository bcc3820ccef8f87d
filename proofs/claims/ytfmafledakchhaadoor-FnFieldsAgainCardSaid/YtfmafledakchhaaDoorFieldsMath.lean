/- Fields that are joined by single spaces have the same fields. -/
import Derived.Test.YtfmafledakchhaaDoorSplit
namespace Go.Proofs.YtfmafledakchhaaDoor
/-- The fields, a space behind each. -/
def joinF (D : List (List UInt8)) : List UInt8 := D.flatMap fun f => f ++ [32]
theorem joinF_snoc (D : List (List UInt8)) (f : List UInt8) : joinF (D ++ [f]) = joinF D ++ (f ++ [32]) := by simp [joinF]
structure Good (l : List UInt8) (D : List (List UInt8)) (C : List UInt8) : Prop where
  ne : ∀ f ∈ D, f ≠ []
  sp : ∀ f ∈ D, ∀ c ∈ f, c ≠ 32 ∧ c ∈ l
  cs : ∀ c ∈ C, c ≠ 32 ∧ c ∈ l
  len : (joinF D).length + C.length ≤ l.length
theorem good_scan : ∀ (n : Nat) (l : List UInt8), l.length = n → Good l (scanF l).1 (scanF l).2 := by
  intro n
  induction n with
  | zero =>
    intro l hl
    obtain rfl := List.eq_nil_of_length_eq_zero hl
    exact ⟨by simp [scanF], by simp [scanF], by simp [scanF], by simp [scanF, joinF]⟩
  | succ n ih =>
    intro l hl
    have hne : l ≠ [] := by intro h; simp [h] at hl
    obtain ⟨l, c, rfl⟩ : ∃ l' c, l = l' ++ [c] := ⟨_, _, (List.dropLast_concat_getLast hne).symm⟩
    have g := ih l (by simpa using hl)
    rw [scanF_snoc]
    generalize scanF l = st at g ⊢
    obtain ⟨D, C⟩ := st
    unfold stepF
    by_cases hc : c = 32
    · rw [if_pos hc]
      by_cases hC : C = []
      · have e : addF D C = D := if_pos hC
        simp only [e]
        exact ⟨g.ne, fun f hf x hx => ⟨(g.sp f hf x hx).1, List.mem_append_left _ (g.sp f hf x hx).2⟩, by simp, by have := g.len; simp at this ⊢; omega⟩
      · have e : addF D C = D ++ [C] := if_neg hC
        simp only [e]
        refine ⟨?_, ?_, by simp, ?_⟩
        · intro f hf
          rw [List.mem_append, List.mem_singleton] at hf
          rcases hf with hf | hf
          · exact g.ne f hf
          · rw [hf]; exact hC
        · intro f hf x hx
          rw [List.mem_append, List.mem_singleton] at hf
          rcases hf with hf | hf
          · exact ⟨(g.sp f hf x hx).1, List.mem_append_left _ (g.sp f hf x hx).2⟩
          · rw [hf] at hx; exact ⟨(g.cs x hx).1, List.mem_append_left _ (g.cs x hx).2⟩
        · rw [joinF_snoc]
          have := g.len
          simp at this ⊢
          omega
    · rw [if_neg hc]
      refine ⟨g.ne, fun f hf x hx => ⟨(g.sp f hf x hx).1, List.mem_append_left _ (g.sp f hf x hx).2⟩, ?_, ?_⟩
      · intro x hx
        rw [List.mem_append, List.mem_singleton] at hx
        rcases hx with hx | hx
        · exact ⟨(g.cs x hx).1, List.mem_append_left _ (g.cs x hx).2⟩
        · rw [hx]; exact ⟨hc, by simp⟩
      · have := g.len; simp at this ⊢; omega
theorem good_fin (l : List UInt8) : (∀ f ∈ finF l, f ≠ []) ∧ (∀ f ∈ finF l, ∀ c ∈ f, c ≠ 32 ∧ c ∈ l) ∧ (joinF (finF l)).length ≤ l.length + 1 := by
  have g := good_scan l.length l rfl
  unfold finF
  generalize scanF l = st at g ⊢
  obtain ⟨D, C⟩ := st
  by_cases hC : C = []
  · have e : addF D C = D := if_pos hC
    simp only [e]
    exact ⟨g.ne, g.sp, by have := g.len; simp at this ⊢; omega⟩
  · have e : addF D C = D ++ [C] := if_neg hC
    simp only [e]
    refine ⟨?_, ?_, ?_⟩
    · intro f hf
      rw [List.mem_append, List.mem_singleton] at hf
      rcases hf with hf | hf
      · exact g.ne f hf
      · rw [hf]; exact hC
    · intro f hf x hx
      rw [List.mem_append, List.mem_singleton] at hf
      rcases hf with hf | hf
      · exact g.sp f hf x hx
      · rw [hf] at hx; exact g.cs x hx
    · rw [joinF_snoc]; have := g.len; simp at this ⊢; omega
theorem fold_field : ∀ (f : List UInt8) (D : List (List UInt8)) (C : List UInt8), (∀ c ∈ f, c ≠ 32) → f.foldl stepF (D, C) = (D, C ++ f) := by
  intro f
  induction f with
  | nil => intro D C _; simp
  | cons c r ih =>
    intro D C h
    have hc := h c (by simp)
    simp only [List.foldl_cons]
    have e : stepF (D, C) c = (D, C ++ [c]) := by unfold stepF; rw [if_neg hc]
    rw [e, ih D (C ++ [c]) (fun x hx => h x (by simp [hx]))]
    simp
theorem fold_join : ∀ (F : List (List UInt8)) (D : List (List UInt8)), (∀ f ∈ F, f ≠ []) → (∀ f ∈ F, ∀ c ∈ f, c ≠ 32) → (joinF F).foldl stepF (D, []) = (D ++ F, []) := by
  intro F
  induction F with
  | nil => intro D _ _; simp [joinF]
  | cons f r ih =>
    intro D h1 h2
    have e : joinF (f :: r) = (f ++ [32]) ++ joinF r := by simp [joinF]
    rw [e, List.foldl_append, List.foldl_append, fold_field f D [] (h2 f (by simp))]
    have e2 : List.foldl stepF (D, [] ++ f) [32] = (D ++ [f], []) := by
      simp only [List.foldl_cons, List.foldl_nil, List.nil_append]
      unfold stepF
      rw [if_pos rfl]
      simp only [addF, if_neg (h1 f (by simp))]
    rw [e2, ih (D ++ [f]) (fun x hx => h1 x (by simp [hx])) (fun x hx => h2 x (by simp [hx]))]
    simp
theorem split_parts (s : ByteArray) (h : splitOk s = true) : s.size ≤ 600 ∧ s.data.toList.all okc = true ∧ (finF s.data.toList).length ≤ 24 := by
  unfold splitOk at h
  simp only [Bool.and_eq_true, decide_eq_true_eq] at h
  exact ⟨h.1.1, h.1.2, h.2⟩
/-- The joined line has the same fields, where it is not too long. -/
theorem again (s : ByteArray) (h : splitOk s = true) (hl : (bs (joinF (fieldsOf s))).size ≤ 600) : splitOk (bs (joinF (fieldsOf s))) = true ∧ fieldsOf (bs (joinF (fieldsOf s))) = fieldsOf s := by
  obtain ⟨h1, h2, h3⟩ := split_parts s h
  have eF : fieldsOf s = finF s.data.toList := by unfold fieldsOf; rw [if_pos h]
  obtain ⟨g1, g2, _⟩ := good_fin s.data.toList
  rw [eF] at hl ⊢
  have ed : (bs (joinF (finF s.data.toList))).data.toList = joinF (finF s.data.toList) := by simp [bs]
  have es : finF (joinF (finF s.data.toList)) = finF s.data.toList := by
    have := fold_join (finF s.data.toList) [] g1 (fun f hf c hc => (g2 f hf c hc).1)
    rw [List.nil_append] at this
    have e : scanF (joinF (finF s.data.toList)) = (finF s.data.toList, []) := this
    show addF (scanF (joinF (finF s.data.toList))).1 (scanF (joinF (finF s.data.toList))).2 = _
    rw [e]
    exact if_pos rfl
  have hall : (joinF (finF s.data.toList)).all okc = true := by
    rw [List.all_eq_true]
    intro c hc
    unfold joinF at hc
    rw [List.mem_flatMap] at hc
    obtain ⟨f, hf, hc⟩ := hc
    rw [List.mem_append, List.mem_singleton] at hc
    rcases hc with hc | hc
    · exact List.all_eq_true.1 h2 c (g2 f hf c hc).2
    · rw [hc]; decide
  have ok : splitOk (bs (joinF (finF s.data.toList))) = true := by
    unfold splitOk
    rw [ed, es, hall]
    simp [hl, h3]
  refine ⟨ok, ?_⟩
  unfold fieldsOf
  rw [if_pos ok, ed, es]
theorem join_take_le (F : List (List UInt8)) (k : Nat) : (joinF (F.take k)).length ≤ (joinF F).length := by
  have e : joinF F = joinF (F.take k) ++ joinF (F.drop k) := by
    conv => lhs; rw [← List.take_append_drop k F]
    simp only [joinF, List.flatMap_append]
  rw [e, List.length_append]; omega
theorem fields_join_len (s : ByteArray) (h : splitOk s = true) : (joinF (fieldsOf s)).length ≤ 601 := by
  have eF : fieldsOf s = finF s.data.toList := by unfold fieldsOf; rw [if_pos h]
  rw [eF]
  have := (good_fin s.data.toList).2.2
  have h1 := (split_parts s h).1
  have : s.data.toList.length = s.size := by simp
  omega
end Go.Proofs.YtfmafledakchhaaDoor
