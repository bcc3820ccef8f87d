/- Slices of ints that came in as arguments, or lie anywhere in memory: what can be read of them; toIntS of the exact laws. Of at most 1048576 ints. -/
import Derived.Test.YtlmncebdpakanaaLinesAll
import Derived.Test.YtlmncebdpakanaaBoards
import Derived.OwnWalk
namespace Go.Proofs.Ytlmncebdpakanaa
open Go.RowKit
set_option linter.unusedVariables false
set_option linter.unusedSimpArgs false
/-- A slice of ints that can be read: the ints that it holds. -/
def IntsAt (w : World) (a : Option Addr) (len : Nat) (xs : List Int) : Prop :=
  xs.length = len ∧ (len = 0 ∨ ∃ b off, a = some ⟨b, off, none⟩ ∧ b < w.heap.size ∧ ∀ (k : Nat) x, xs[k]? = some x → w.cell? ⟨b, off + k, none⟩ = some (.int .i64 x))
theorem IntsAt.later {w w' : World} {a : Option Addr} {len : Nat} {xs : List Int} (h : IntsAt w a len xs) (hb : Below w.heap.size w w') : IntsAt w' a len xs := by
  refine ⟨h.1, h.2.imp id ?_⟩
  rintro ⟨b, off, rfl, hlt, hc⟩
  exact ⟨b, off, rfl, Nat.lt_of_lt_of_le hlt hb.size, fun k x hk => (hb.cell hlt).trans (hc k x hk)⟩
/-- One of its cells. -/
theorem IntsAt.cell {w : World} {a : Option Addr} {len : Nat} {xs : List Int} (h : IntsAt w a len xs) {k : Nat} (hk : k < len) : ∃ b off, a = some ⟨b, off, none⟩ ∧ b < w.heap.size ∧ ∀ (k : Nat) x, xs[k]? = some x → w.cell? ⟨b, off + k, none⟩ = some (.int .i64 x) := by
  rcases h.2 with h0 | h0
  · omega
  · exact h0
theorem ints_own {w : World} {B n c : Nat} {T : TypeId} {a : Option Addr} {xs : List Int} (h : w.ownsRow B T 1 (.slice a n c) n (iv xs)) (hn : xs.length = n) : IntsAt w a n xs := by
  refine ⟨hn, ?_⟩
  rcases h.2 with ⟨h1, h2⟩ | ⟨g, cap, cur, h1, hb, hg, -⟩
  · exact .inl h2
  · right
    injection h1 with h1 h2 h3
    subst h1 h3
    refine ⟨g, 0, rfl, (h.lt g rfl).2, fun k x hk => ?_⟩
    have hkn : k < n := by rw [← hn]; exact (List.getElem?_eq_some_iff.1 hk).1
    rw [Nat.zero_add]
    exact own_cell h k hkn _ (by simp [iv, hk])
theorem int_form {w : World} {b n : Nat} {e : TypeId} {v : Value} {xs : List Value} (h : w.ownsRow b e 1 v n xs) : ∃ a c, v = .slice a n c := by
  rcases Go.Joins.ownsRow_forms h with ⟨rfl, rfl⟩ | ⟨g, cap, rfl⟩
  · exact ⟨_, _, rfl⟩
  · exact ⟨_, _, rfl⟩
/-- What the frame of a law tells. -/
theorem ints_row {w : World} {a : Option Addr} {len cap : Nat} {zs : List Int} (h : (a = none ∧ len = 0 ∧ cap = 0 ∧ zs = []) ∨ ∃ x, a = some x ∧ len ≤ cap ∧ cap ≤ maxLen ∧ zs.length = cap ∧ (∀ i, i < zs.length → w.cell? (x.add i) = some (.int .i64 (zs.getD i 0))) ∧ ∀ n ∈ zs, (Lit.int .i64 n).wf = true) :
    IntsAt w a len (zs.take len) ∧ len ≤ maxLen := by
  rcases h with ⟨rfl, rfl, rfl, rfl⟩ | ⟨x, rfl, hl, hm, hz, hc, -⟩
  · exact ⟨⟨rfl, .inl rfl⟩, Nat.zero_le _⟩
  · refine ⟨⟨by rw [List.length_take, hz]; omega, ?_⟩, Nat.le_trans hl hm⟩
    by_cases h0 : len = 0
    · exact .inl h0
    · right
      obtain ⟨b, off, spot⟩ := x
      have hc0 := hc 0 (by omega)
      have hspot : spot = none := by simpa [Addr.add] using World.cell?_spot hc0
      subst hspot
      refine ⟨b, off, rfl, World.block_lt_of_cell? w _ (by simpa [Addr.add] using hc0), fun k y hk => ?_⟩
      have hkl : k < len := by have := (List.getElem?_eq_some_iff.1 hk).1; rw [List.length_take] at this; omega
      have hck := hc k (by omega)
      have e : (⟨b, off, none⟩ : Addr).add k = ⟨b, off + k, none⟩ := by unfold Addr.add; split <;> simp_all
      rw [e] at hck
      rw [List.getElem?_take, if_pos hkl] at hk
      rw [hck, List.getD, hk]; rfl
theorem iput (l : List Value) (ys : List Int) (x : Int) {k n : Nat} (hy : ys.length = k) (hl : l.length = n) (hk : k < n) :
    (iv ys ++ l.drop k).set k (.int .i64 x) = iv (ys ++ [x]) ++ l.drop (k + 1) := by
  rw [List.drop_eq_getElem_cons (show k < l.length by omega), iv_snoc]
  have hL : (iv ys).length = k := by rw [iv_len, hy]
  generalize iv ys = L at *
  generalize l.drop (k + 1) = r
  subst hL
  simp [List.set_append_right]
end Go.Proofs.Ytlmncebdpakanaa
