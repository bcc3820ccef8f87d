/- The three helpers of the exact laws on lists of ints: equal lists are found equal; the marks are written into an owned list; the marks are found again. Of owned lists of at most 1048576 ints and marks up to ten digits. -/
import Derived.Test.YtdlpfpeblaapdaaProg
import Derived.Test.YtdlpfpeblaapdaaBase
import Derived.WalkKit
import Derived.WalkSpells
import Derived.BigQuiet
import Derived.Deep.QuietTactic
import Derived.Deep.Draws
import Derived.Lib.Hide
import Derived.Lib.SmallJoins
namespace Go.Proofs.Ytdlpfpeblaapdaa
open Go.RowKit
/-- A list of ints as values. -/
def iv (xs : List Int) : List Value := xs.map (Value.int .i64)
/-- It returns v, and only draws. -/
def QuietRet (v : Value) (w : World) (e : Ending) (w' : World) : Prop := e = .returned v ∧ ∃ n, w' = w.drewN n
theorem drewN_ownI {w : World} {base : Nat} {e : TypeId} {size : Nat} {v : Value} {n : Nat} {xs : List Value} (h : w.ownsRow base e size v n xs) (q : Nat) : (w.drewN q).ownsRow base e size v n xs := h
theorem drewN_belowI (w : World) (q : Nat) : Below w.heap.size w (w.drewN q) := ⟨rfl, rfl, rfl, Nat.le_refl _, fun _ _ => rfl⟩
set_option maxRecDepth 100000 in
theorem eqInt_none {b1 b2 : Nat} (va vb : Value) (w : World) (ha : w.ownsRow b1 3 1 va 0 []) (hb : w.ownsRow b2 3 1 vb 0 []) :
    Calls Try.prog 23 #[va, vb] w (QuietRet (.bool true) w) := by
  obtain ⟨a, c, rfl⟩ : ∃ a c, va = .slice a 0 c := by rcases Go.Joins.ownsRow_forms ha with ⟨rfl, _⟩ | ⟨g, cap, rfl⟩ <;> exact ⟨_, _, rfl⟩
  obtain ⟨a', c', rfl⟩ : ∃ a c, vb = .slice a 0 c := by rcases Go.Joins.ownsRow_forms hb with ⟨rfl, _⟩ | ⟨g, cap, rfl⟩ <;> exact ⟨_, _, rfl⟩
  clear ha hb
  go_enter Try.func23, Try.ntmps23
  go_wp2
  go_loop [5, 11, 12, 13, 14] (fun i _ _ _ _ => i = .int .i64 0) (fun _ _ _ _ _ => 0)
  case atStart => rfl
  case round =>
    subst hrel
    go_wp2
    go_ret
    exact ⟨rfl, 0, rfl⟩
set_option maxHeartbeats 1000000 in
set_option maxRecDepth 100000 in
theorem eqInt_some {b1 b2 ga gb n ca cb : Nat} (xs : List Int) (w : World) (hn : xs.length = n) (hx : n ≤ 1048576)
    (ha : w.ownsRow b1 3 1 (.slice (some ⟨ga, 0, none⟩) n ca) n (iv xs)) (hb : w.ownsRow b2 3 1 (.slice (some ⟨gb, 0, none⟩) n cb) n (iv xs)) :
    Calls Try.prog 23 #[.slice (some ⟨ga, 0, none⟩) n ca, .slice (some ⟨gb, 0, none⟩) n cb] w (QuietRet (.bool true) w) := by
  have HN := Lib.hid hn; clear hn
  have HA := Lib.hid ha; clear ha
  have HB := Lib.hid hb; clear hb
  go_enter Try.func23, Try.ntmps23
  go_wp2
  go_loopw [5] (fun i wr => ∃ k q : Nat, k ≤ n ∧ i = .int .i64 k ∧ wr = w.drewN q) (fun i _ => n - (intOf i).toNat)
  case atStart => exact ⟨0, 0, Nat.zero_le _, rfl, rfl⟩
  case round =>
    obtain ⟨k, q, hk, rfl, rfl⟩ := hrel
    by_cases hlt : k < n
    · have h0 : (0 : Int) ≤ (k : Int) := by omega
      have h1 : (k : Int) < (n : Int) := by omega
      obtain ⟨x, hxk⟩ : ∃ x, xs[k]? = some x := ⟨_, List.getElem?_eq_getElem (by rw [HN.out]; exact hlt)⟩
      have hA : w.cell? ⟨ga, k, none⟩ = some (.int .i64 x) := own_cell HA.out k hlt _ (by simp [iv, hxk])
      have hB : w.cell? ⟨gb, k, none⟩ = some (.int .i64 x) := own_cell HB.out k hlt _ (by simp [iv, hxk])
      clear hxk
      go_wp2_with fail
      go_quiet (fail)
      go_wp2
      go_roundw
      case rel => exact ⟨k + 1, _, by omega, by go_num, rfl⟩
      case measure => simp [intOf]; omega
    · go_wp2
      go_ret
      exact ⟨rfl, q, rfl⟩
theorem eqInt {b1 b2 n : Nat} (va vb : Value) (xs : List Int) (w : World) (hn : xs.length = n) (hx : n ≤ 1048576) (ha : w.ownsRow b1 3 1 va n (iv xs)) (hb : w.ownsRow b2 3 1 vb n (iv xs)) :
    Calls Try.prog 23 #[va, vb] w (QuietRet (.bool true) w) := by
  by_cases h0 : n = 0
  · subst h0
    obtain rfl : xs = [] := List.eq_nil_of_length_eq_zero hn
    exact eqInt_none va vb w ha hb
  · rcases Go.Joins.ownsRow_forms ha with ⟨_, h⟩ | ⟨g, cap, rfl⟩
    · exact absurd h h0
    · rcases Go.Joins.ownsRow_forms hb with ⟨_, h⟩ | ⟨g', cap', rfl⟩
      · exact absurd h h0
      · exact eqInt_some xs w hn hx ha hb
/-- The n marks from K on. -/
def imarks (K n : Nat) : List Int := (List.range n).map fun (i : Nat) => ((K + i : Nat) : Int)
theorem imarks_length (K n : Nat) : (imarks K n).length = n := by simp [imarks]
theorem imarks_succ (K n : Nat) : imarks K (n + 1) = imarks K n ++ [((K + n : Nat) : Int)] := by simp [imarks, List.range_succ]
theorem iset_mark (l : List Int) (K k : Nat) (x : Int) (r : List Int) (h : l.drop k = x :: r) :
    (iv (imarks K k ++ l.drop k)).set k (.int .i64 ((K + k : Nat) : Int)) = iv (imarks K (k + 1) ++ l.drop (k + 1)) := by
  have h1 : l.drop (k + 1) = r := by rw [← List.drop_drop, h]; rfl
  unfold iv
  rw [h1, h, imarks_succ, List.map_append, List.set_append_right _ _ (by simp [imarks_length])]
  simp [imarks_length]
def IMarked (b K n : Nat) (v : Value) (w : World) (e : Ending) (w' : World) : Prop :=
  e = .returned (.int .i64 (K + n : Nat)) ∧ w'.ownsRow b 3 1 v n (iv (imarks K n)) ∧ w.grownBy w' v.ownBlock
set_option maxRecDepth 100000 in
theorem markInt_none {b : Nat} (v : Value) (w : World) (K : Nat) (ha : w.ownsRow b 3 1 v 0 []) :
    Calls Try.prog 25 #[v, .int .i64 K] w (IMarked b K 0 v w) := by
  have hp : IMarked b K 0 v w (.returned (.int .i64 (K + 0 : Nat))) w := ⟨rfl, ha, World.grownBy.refl _ _⟩
  have HP := Lib.hid hp; clear hp
  obtain ⟨a, c, rfl⟩ : ∃ a c, v = .slice a 0 c := by rcases Go.Joins.ownsRow_forms ha with ⟨rfl, _⟩ | ⟨g, cap, rfl⟩ <;> exact ⟨_, _, rfl⟩
  clear ha
  go_enter Try.func25, Try.ntmps25
  go_wp2
  go_loop [1, 5] (fun t i => i = .int .i64 0 ∧ t = .int .i64 K) (fun _ _ => 0)
  case atStart => exact ⟨rfl, rfl⟩
  case round =>
    obtain ⟨rfl, rfl⟩ := hrel
    go_wp2
    go_ret
    exact HP.out
set_option maxHeartbeats 1000000 in
set_option maxRecDepth 100000 in
theorem markInt_some {b g n c : Nat} (xs : List Int) (w : World) (K : Nat) (hK : K ≤ 1000000000) (hn : xs.length = n) (hx : n ≤ 1048576)
    (ha : w.ownsRow b 3 1 (.slice (some ⟨g, 0, none⟩) n c) n (iv xs)) :
    Calls Try.prog 25 #[.slice (some ⟨g, 0, none⟩) n c, .int .i64 K] w (IMarked b K n (.slice (some ⟨g, 0, none⟩) n c) w) := by
  have HN := Lib.hid hn; clear hn
  have HA := Lib.hid ha; clear ha
  go_enter Try.func25, Try.ntmps25
  go_wp2
  go_loopw [1, 5] (fun t i wr => ∃ k : Nat, k ≤ n ∧ i = .int .i64 k ∧ t = .int .i64 (K + k : Nat) ∧ Hid (wr.ownsRow b 3 1 (.slice (some ⟨g, 0, none⟩) n c) n (iv (imarks K k ++ xs.drop k))) ∧ Hid (w.grownBy wr (some g))) (fun _ i _ => n - (intOf i).toNat)
  case atStart => exact ⟨0, Nat.zero_le _, rfl, rfl, HA, World.grownBy.refl _ _⟩
  case round =>
    obtain ⟨k, hk, rfl, rfl, HO, hg⟩ := hrel
    by_cases hlt : k < n
    · have h0 : (0 : Int) ≤ (k : Int) := by omega
      have h1 : (k : Int) < (n : Int) := by omega
      obtain ⟨x, r, hxr⟩ : ∃ x r, xs.drop k = x :: r := ⟨_, _, List.drop_eq_getElem_cons (by rw [HN.out]; exact hlt)⟩
      have hset := iset_mark xs K k x r hxr
      have HS := Lib.hid hset; clear hset hxr
      have hst := HO.out.stored k (.int .i64 ((K + k : Nat) : Int))
      rw [HS.out] at hst
      have hcell : ∃ v, wr.cell? ⟨g, k, none⟩ = some v := by
        rw [HO.out.cellAt k (by omega)]
        exact ⟨_, List.getElem?_eq_getElem (by have := HO.out.1; omega)⟩
      obtain ⟨vc, hcell⟩ := hcell
      have hfz := HO.out.frozenAt k
      have HG := Lib.hid (hg.out.trans hst.2)
      have HST := Lib.hid hst.1; clear hst
      go_wp2
      go_roundw
      case rel => exact ⟨k + 1, by omega, by go_num, by go_num, HST, HG⟩
      case measure => simp [intOf]; omega
    · obtain rfl : k = n := by omega
      have hown' : Hid (wr.ownsRow b 3 1 (.slice (some ⟨g, 0, none⟩) k c) k (iv (imarks K k))) := by
        have := HO.out
        unfold Hid
        rw [List.drop_of_length_le (by rw [HN.out]; exact Nat.le_refl _), List.append_nil] at this; exact this
      clear HO
      go_wp2
      go_ret
      exact ⟨rfl, hown'.out, hg.out⟩
theorem markInt {b n : Nat} (v : Value) (xs : List Int) (w : World) (K : Nat) (hK : K ≤ 1000000000) (hn : xs.length = n) (hx : n ≤ 1048576) (ha : w.ownsRow b 3 1 v n (iv xs)) :
    Calls Try.prog 25 #[v, .int .i64 K] w (IMarked b K n v w) := by
  by_cases h0 : n = 0
  · subst h0
    obtain rfl : xs = [] := List.eq_nil_of_length_eq_zero hn
    exact markInt_none v w K ha
  · rcases Go.Joins.ownsRow_forms ha with ⟨_, h⟩ | ⟨g, cap, rfl⟩
    · exact absurd h h0
    · exact markInt_some xs w K hK hn hx ha
set_option maxRecDepth 100000 in
theorem heldInt_none {b : Nat} (v : Value) (w : World) (K : Nat) (ha : w.ownsRow b 3 1 v 0 []) :
    Calls Try.prog 26 #[v, .int .i64 K] w (QuietRet (.int .i64 (K + 0 : Nat)) w) := by
  obtain ⟨a, c, rfl⟩ : ∃ a c, v = .slice a 0 c := by rcases Go.Joins.ownsRow_forms ha with ⟨rfl, _⟩ | ⟨g, cap, rfl⟩ <;> exact ⟨_, _, rfl⟩
  clear ha
  go_enter Try.func26, Try.ntmps26
  go_wp2
  go_loop [1, 4, 5] (fun t _ i => i = .int .i64 0 ∧ t = .int .i64 K) (fun _ _ _ => 0)
  case atStart => exact ⟨rfl, rfl⟩
  case round =>
    obtain ⟨rfl, rfl⟩ := hrel
    go_wp2
    go_ret
    exact ⟨rfl, 0, rfl⟩
set_option maxHeartbeats 1000000 in
set_option maxRecDepth 100000 in
theorem heldInt_some {b g n c : Nat} (w : World) (K : Nat) (hK : K ≤ 1000000000) (hx : n ≤ 1048576)
    (ha : w.ownsRow b 3 1 (.slice (some ⟨g, 0, none⟩) n c) n (iv (imarks K n))) :
    Calls Try.prog 26 #[.slice (some ⟨g, 0, none⟩) n c, .int .i64 K] w (QuietRet (.int .i64 (K + n : Nat)) w) := by
  have HA := Lib.hid ha
  clear ha
  go_enter Try.func26, Try.ntmps26
  go_wp2
  go_loopw [1, 4, 5] (fun t _ i wr => ∃ k q : Nat, k ≤ n ∧ i = .int .i64 k ∧ t = .int .i64 (K + k : Nat) ∧ wr = w.drewN q) (fun _ _ i _ => n - (intOf i).toNat)
  case atStart => exact ⟨0, 0, Nat.zero_le _, rfl, rfl, rfl⟩
  case round =>
    obtain ⟨k, q, hk, rfl, rfl, rfl⟩ := hrel
    by_cases hlt : k < n
    · have h0 : (0 : Int) ≤ (k : Int) := by omega
      have h1 : (k : Int) < (n : Int) := by omega
      have hcw : w.cell? ⟨g, k, none⟩ = some (.int .i64 ((K : Int) + k)) := own_cell HA.out k hlt _ (by simp [iv, imarks, hlt])
      go_wp2_with fail
      try go_quiet (fail)
      go_wp2
      go_roundw
      case rel => exact ⟨k + 1, _, by omega, by go_num, by go_num, rfl⟩
      case measure => simp [intOf]; omega
    · obtain rfl : k = n := by omega
      go_wp2
      go_ret
      exact ⟨rfl, _, rfl⟩
theorem heldInt {b n : Nat} (v : Value) (w : World) (K : Nat) (hK : K ≤ 1000000000) (hx : n ≤ 1048576) (ha : w.ownsRow b 3 1 v n (iv (imarks K n))) :
    Calls Try.prog 26 #[v, .int .i64 K] w (QuietRet (.int .i64 (K + n : Nat)) w) := by
  by_cases h0 : n = 0
  · subst h0
    exact heldInt_none v w K ha
  · rcases Go.Joins.ownsRow_forms ha with ⟨_, h⟩ | ⟨g, cap, rfl⟩
    · exact absurd h h0
    · exact heldInt_some w K hK hx ha
end Go.Proofs.Ytdlpfpeblaapdaa
