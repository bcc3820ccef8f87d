/- laws.has: whether a number is in a list of numbers. -/
import Derived.Test.YtkenlighpelhiaaGreatLinesAll
import Derived.Test.YtkenlighpelhiaaGreatPegsAll
import Derived.Test.YtkenlighpelhiaaGreatClasses
namespace Go.Proofs.YtkenlighpelhiaaGreat
open Go.RowKit
set_option linter.unusedVariables false
set_option linter.unusedSimpArgs false
set_option maxRecDepth 100000 in
/-- At whatever number. -/
theorem hasAny {b n c x : Nat} {a : Option Addr} {T : TypeId} {l : List Nat} (w : World) (hn : l.length = n) (h : w.ownsRow b T 1 (.slice a n c) n (Ints l)) (hsz : n ≤ 1048576) : Calls Tryz.prog 7 #[.slice a n c, .int .i64 (x : Int)] w (QB (decide (x ∈ l)) w) := by
  have HR := Lib.hid h
  have HN := Lib.hid hn
  clear h hn
  go_enter Tryz.func7, Tryz.ntmps7
  go_wp2_with fail
  go_loopw [5] (fun i wr => ∃ k : Nat, k ≤ n ∧ i = .int .i64 k ∧ Hid (x ∉ l.take k) ∧ Hid (Below w.heap.size w wr)) (fun i _ => n - (intOf i).toNat)
  case atStart => exact ⟨0, Nat.zero_le _, rfl, by unfold Hid; simp, Below.refl _ _⟩
  case round =>
    obtain ⟨k, hk, rfl, HK, HB⟩ := hrel
    by_cases hkn : k < n
    · have k0 : (0 : Int) ≤ (k : Int) := by omega
      have k1 : (k : Int) < (n : Int) := by omega
      obtain ⟨y, hy⟩ : ∃ y, l[k]? = some y := ⟨_, List.getElem?_eq_getElem (by rw [HN.out]; exact hkn)⟩
      obtain ⟨g, cap, e⟩ : ∃ g cap, (Value.slice a n c) = .slice (some ⟨g, 0, none⟩) n cap := by
        rcases Go.Joins.ownsRow_forms HR.out with ⟨h1, h2⟩ | ⟨g, cap, h1⟩
        · omega
        · exact ⟨g, cap, h1⟩
      injection e with e1 e2 e3
      subst e1
      have hc : ∀ w' : World, Below w.heap.size w w' → w'.cell? ⟨g, k, none⟩ = some (.int .i64 (y : Int)) := fun w' hb => by
        have := own_below HR.out hb
        exact own_cell this k hkn _ (by simp [Ints, hy])
      have HC := Lib.hid hc
      have c0 := HC.out _ HB.out
      have HM : Hid (y ∈ l) := List.mem_of_getElem? hy
      have HK2 : Hid (y ≠ x → x ∉ l.take (k + 1)) := fun hne h => by
        rw [take_one hy, List.mem_append, List.mem_singleton] at h
        rcases h with h | h
        · exact HK.out h
        · exact hne h.symm
      clear hc hy
      by_cases hyx : y = x
      · subst hyx
        go_wp2_with fail
        go_ret
        exact ⟨congrArg (fun d => Ending.returned (Value.bool d)) (decide_eq_true HM.out).symm, HB.out⟩
      · have hyx' : ¬ (y : Int) = (x : Int) := by omega
        have HK3 := Lib.hid (HK2.out hyx)
        go_wp2_with fail
        go_roundw
        case rel => exact ⟨k + 1, by omega, by go_num, HK3, HB⟩
        case measure => simp [intOf]; omega
    · have hkn' : ¬ (k : Int) < (n : Int) := by omega
      have HX : Hid (x ∉ l) := by
        have := HK.out
        rwa [List.take_of_length_le (by rw [HN.out]; omega)] at this
      go_wp2_with fail
      go_ret
      exact ⟨congrArg (fun d => Ending.returned (Value.bool d)) (decide_eq_false HX.out).symm, HB.out⟩
/-- At one that is there. -/
theorem hasIn {b n c x : Nat} {a : Option Addr} {T : TypeId} {l : List Nat} (w : World) (hn : l.length = n) (h : w.ownsRow b T 1 (.slice a n c) n (Ints l)) (hx : x ∈ l) (hsz : n ≤ 1048576) : Calls Tryz.prog 7 #[.slice a n c, .int .i64 (x : Int)] w (QB true w) := by
  have := hasAny (x := x) w hn h hsz
  rwa [decide_eq_true hx] at this
end Go.Proofs.YtkenlighpelhiaaGreat
