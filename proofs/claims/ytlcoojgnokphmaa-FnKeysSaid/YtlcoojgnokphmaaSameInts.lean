/- The laws' own comparison of two lists of ints. -/
import Derived.Test.YtlcoojgnokphmaaClassMore
import Derived.Test.YtlcoojgnokphmaaLinesAll
import Derived.WalkKit
import Derived.WalkSpells
import Derived.BigQuiet
import Derived.Deep.QuietTactic
import Derived.Deep.Draws
import Derived.Lib.Hide
import Derived.Lib.SmallJoins
namespace Go.Proofs.Ytlcoojgnokphmaa
open Go.RowKit
variable {T T1 T2 : TypeId}
set_option maxRecDepth 100000 in
theorem sameI_none {b1 b2 : Nat} (va vb : Value) (w : World) (ha : w.ownsRow b1 T1 1 va 0 []) (hb : w.ownsRow b2 T2 1 vb 0 []) :
    Calls Try.prog 15 #[va, vb] w (QuietRet (.bool true) w) := by
  obtain ⟨a, c, rfl⟩ : ∃ a c, va = .slice a 0 c := by rcases Go.Joins.ownsRow_forms ha with ⟨rfl, _⟩ | ⟨g, cap, rfl⟩ <;> exact ⟨_, _, rfl⟩
  obtain ⟨a', c', rfl⟩ : ∃ a c, vb = .slice a 0 c := by rcases Go.Joins.ownsRow_forms hb with ⟨rfl, _⟩ | ⟨g, cap, rfl⟩ <;> exact ⟨_, _, rfl⟩
  clear ha hb
  go_enter Try.func15, Try.ntmps15
  go_wp2
  go_loop [5, 11, 12, 13, 14] (fun i _ _ _ _ => i = .int .i64 0) (fun _ _ _ _ _ => 0)
  case atStart => rfl
  case round =>
    subst hrel
    go_wp2
    go_ret
    exact ⟨rfl, 0, rfl⟩
set_option maxHeartbeats 1000000 in
set_option maxRecDepth 100000 in
theorem sameI_some {b1 b2 ga gb n ca cb : Nat} (xs : List Int) (w : World) (hn : xs.length = n) (hx : n ≤ 1048576)
    (ha : w.ownsRow b1 T1 1 (.slice (some ⟨ga, 0, none⟩) n ca) n (iv xs)) (hb : w.ownsRow b2 T2 1 (.slice (some ⟨gb, 0, none⟩) n cb) n (iv xs)) :
    Calls Try.prog 15 #[.slice (some ⟨ga, 0, none⟩) n ca, .slice (some ⟨gb, 0, none⟩) n cb] w (QuietRet (.bool true) w) := by
  have HN := Lib.hid hn; clear hn
  have HA := Lib.hid ha; clear ha
  have HB := Lib.hid hb; clear hb
  go_enter Try.func15, Try.ntmps15
  go_wp2
  go_loopw [5] (fun i wr => ∃ k q : Nat, k ≤ n ∧ i = .int .i64 k ∧ wr = w.drewN q) (fun i _ => n - (intOf i).toNat)
  case atStart => exact ⟨0, 0, Nat.zero_le _, rfl, rfl⟩
  case round =>
    obtain ⟨k, q, hk, rfl, rfl⟩ := hrel
    by_cases hlt : k < n
    · have h0 : (0 : Int) ≤ (k : Int) := by omega
      have h1 : (k : Int) < (n : Int) := by omega
      obtain ⟨x, hxk⟩ : ∃ x, xs[k]? = some x := ⟨_, List.getElem?_eq_getElem (by rw [HN.out]; exact hlt)⟩
      have hA : w.cell? ⟨ga, k, none⟩ = some (.int .i64 x) := own_cell HA.out k hlt _ (by simp [iv, hxk])
      have hB : w.cell? ⟨gb, k, none⟩ = some (.int .i64 x) := own_cell HB.out k hlt _ (by simp [iv, hxk])
      clear hxk
      go_wp2_with fail
      go_quiet (fail)
      go_wp2
      go_roundw
      case rel => exact ⟨k + 1, _, by omega, by go_num, rfl⟩
      case measure => simp [intOf]; omega
    · go_wp2
      go_ret
      exact ⟨rfl, q, rfl⟩
theorem sameI {b1 b2 n : Nat} (va vb : Value) (xs : List Int) (w : World) (hn : xs.length = n) (hx : n ≤ 1048576) (ha : w.ownsRow b1 T1 1 va n (iv xs)) (hb : w.ownsRow b2 T2 1 vb n (iv xs)) :
    Calls Try.prog 15 #[va, vb] w (QuietRet (.bool true) w) := by
  by_cases h0 : n = 0
  · subst h0
    obtain rfl : xs = [] := List.eq_nil_of_length_eq_zero hn
    exact sameI_none va vb w ha hb
  · rcases Go.Joins.ownsRow_forms ha with ⟨_, h⟩ | ⟨g, cap, rfl⟩
    · exact absurd h h0
    · rcases Go.Joins.ownsRow_forms hb with ⟨_, h⟩ | ⟨g', cap', rfl⟩
      · exact absurd h h0
      · exact sameI_some xs w hn hx ha hb
theorem sameN {b1 b2 n : Nat} (va vb : Value) (xs : List Nat) (w : World) (hn : xs.length = n) (hx : n ≤ 1048576) (ha : w.ownsRow b1 T1 1 va n (Ints xs)) (hb : w.ownsRow b2 T2 1 vb n (Ints xs)) :
    Calls Try.prog 15 #[va, vb] w (QuietRet (.bool true) w) :=
  sameI va vb (natsI xs) w (by rw [natsI_len]; exact hn) hx (by rw [iv_nats]; exact ha) (by rw [iv_nats]; exact hb)
end Go.Proofs.Ytlcoojgnokphmaa
