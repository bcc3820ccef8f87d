/- The three helpers of the exact laws on lists of strings: equal lists are found equal; the marks are written into an owned list; the marks are found again. Of owned lists of at most 1048576 strings and marks of at most four digits. -/
import Derived.Test.YtdplgjjpgeoppaaProg
import Derived.Test.YtdplgjjpgeoppaaBase
import Derived.WalkKit
import Derived.WalkSpells
import Derived.BigQuiet
import Derived.Deep.QuietTactic
import Derived.Deep.Draws
import Derived.Lib.Hide
import Derived.Lib.SmallJoins
import Derived.Lib.Strings
import Derived.Deep.RegionHeld3
import Derived.Maps.AppendAt
import Derived.Maps.RangeWalk
namespace Go.Proofs.Ytdplgjjpgeoppaa
open Go.RowKit
theorem drewN_own {w : World} {base : Nat} {e : TypeId} {size : Nat} {v : Value} {n : Nat} {xs : List Value} (h : w.ownsRow base e size v n xs) (q : Nat) : (w.drewN q).ownsRow base e size v n xs := h
theorem drewN_below (w : World) (q : Nat) : Below w.heap.size w (w.drewN q) := ⟨rfl, rfl, rfl, Nat.le_refl _, fun _ _ => rfl⟩
/-- It returns true, and only draws. -/
def QuietTrue (w : World) (e : Ending) (w' : World) : Prop := e = .returned (.bool true) ∧ ∃ n, w' = w.drewN n

set_option maxRecDepth 100000 in
theorem eqStr_none {b1 b2 : Nat} (va vb : Value) (w : World) (ha : w.ownsRow b1 9 1 va 0 []) (hb : w.ownsRow b2 9 1 vb 0 []) :
    Calls Try.prog 31 #[va, vb] w (QuietTrue w) := by
  obtain ⟨a, c, rfl⟩ : ∃ a c, va = .slice a 0 c := by rcases Go.Joins.ownsRow_forms ha with ⟨rfl, _⟩ | ⟨g, cap, rfl⟩ <;> exact ⟨_, _, rfl⟩
  obtain ⟨a', c', rfl⟩ : ∃ a c, vb = .slice a 0 c := by rcases Go.Joins.ownsRow_forms hb with ⟨rfl, _⟩ | ⟨g, cap, rfl⟩ <;> exact ⟨_, _, rfl⟩
  clear ha hb
  go_enter Try.func31, Try.ntmps31
  go_wp2
  go_loop [5, 11, 12, 13, 14] (fun i _ _ _ _ => i = .int .i64 0) (fun _ _ _ _ _ => 0)
  case atStart => rfl
  case round =>
    subst hrel
    go_wp2
    go_ret
    exact ⟨rfl, 0, rfl⟩

set_option maxHeartbeats 1000000 in
set_option maxRecDepth 100000 in
theorem eqStr_some {b1 b2 ga gb n ca cb : Nat} (xs : List ByteArray) (w : World) (hn : xs.length = n) (hx : n ≤ 1048576)
    (ha : w.ownsRow b1 9 1 (.slice (some ⟨ga, 0, none⟩) n ca) n (xs.map Value.string)) (hb : w.ownsRow b2 9 1 (.slice (some ⟨gb, 0, none⟩) n cb) n (xs.map Value.string)) :
    Calls Try.prog 31 #[.slice (some ⟨ga, 0, none⟩) n ca, .slice (some ⟨gb, 0, none⟩) n cb] w (QuietTrue w) := by
  have HN := Lib.hid hn; clear hn
  have HA := Lib.hid ha; clear ha
  have HB := Lib.hid hb; clear hb
  go_enter Try.func31, Try.ntmps31
  go_wp2
  go_loopw [5] (fun i wr => ∃ k q : Nat, k ≤ n ∧ i = .int .i64 k ∧ wr = w.drewN q) (fun i _ => n - (intOf i).toNat)
  case atStart => exact ⟨0, 0, Nat.zero_le _, rfl, rfl⟩
  case round =>
    obtain ⟨k, q, hk, rfl, rfl⟩ := hrel
    by_cases hlt : k < n
    · have h0 : (0 : Int) ≤ (k : Int) := by omega
      have h1 : (k : Int) < (n : Int) := by omega
      obtain ⟨x, hxk⟩ : ∃ x, xs[k]? = some x := ⟨_, List.getElem?_eq_getElem (by rw [HN.out]; exact hlt)⟩
      have hA : w.cell? ⟨ga, k, none⟩ = some (.string x) := own_cell HA.out k hlt _ (by simp [hxk])
      have hB : w.cell? ⟨gb, k, none⟩ = some (.string x) := own_cell HB.out k hlt _ (by simp [hxk])
      clear hxk
      go_wp2_with fail
      go_quiet (fail)
      go_wp2
      go_roundw
      case rel => exact ⟨k + 1, _, by omega, by go_num, rfl⟩
      case measure => simp [intOf]; omega
    · go_wp2
      go_ret
      exact ⟨rfl, q, rfl⟩
/-- The digits of n ahead of out. -/
def mt : Nat → Nat → ByteArray → ByteArray
  | 0, _, out => out
  | f + 1, n, out => if n = 0 then out else mt f (n / 10) (strOfNums [48 + (n % 10 : Nat)] ++ out)
theorem mt_fuel : ∀ (f n : Nat) (out : ByteArray), n ≤ f → mt f n out = mt n n out
  | 0, n, out, h => by obtain rfl : n = 0 := by omega
                       rfl
  | f + 1, 0, out, _ => by simp [mt]
  | f + 1, n + 1, out, h => by
    simp only [mt, Nat.add_one_ne_zero, if_false]
    rw [mt_fuel f ((n + 1) / 10) _ (by omega), mt_fuel n ((n + 1) / 10) _ (by omega)]
theorem mt_step (n : Nat) (out : ByteArray) (h : 0 < n) : mt n n out = mt (n / 10) (n / 10) (strOfNums [48 + (n % 10 : Nat)] ++ out) := by
  match n, h with
  | n + 1, _ =>
    simp only [mt, Nat.add_one_ne_zero, if_false]
    rw [mt_fuel n ((n + 1) / 10) _ (by omega)]
def mtext (k : Nat) : ByteArray := ⟨#[109]⟩ ++ mt k k ⟨#[]⟩
theorem one_text (w : World) (d : Int) : (convert 22 9 (.slice (some ⟨w.heap.size, 0, none⟩) 1 1)).run Try.prog (w.alloc (.cells #[.int .u8 d] 5)) = .ok (.string (strOfNums [d])) (w.alloc (.cells #[.int .u8 d] 5)) := by
  have h : (w.alloc (.cells #[.int .u8 d] 5)).ownsRow w.heap.size 5 1 (.slice (some ⟨w.heap.size, 0, none⟩) 1 1) 1 ([d].map (Value.int .u8)) := World.ownsRow_lit w #[.int .u8 d] 1 (Nat.le_refl _) (by unfold maxLen; omega) rfl
  exact convert_own _ 22 5 9 Try.underlying22 Try.underlying5 Try.underlying9 h
def MarkPost (K : Nat) (w : World) (e : Ending) (w' : World) : Prop := e = .returned (.string (mtext K)) ∧ Below w.heap.size w w'
set_option maxHeartbeats 1000000 in
set_option maxRecDepth 100000 in
theorem markText (K : Nat) (w : World) (h0 : 0 < K) (h1 : K ≤ 1000000000) : Calls Try.prog 46 #[.int .i64 K] w (MarkPost K w) := by
  have g0 : (0 : Int) < (K : Int) := by omega
  have hk0 : decide (K = 0) = false := by simp; omega
  go_enter Try.func46, Try.ntmps46
  go_wp2
  go_loopw [0, 3] (fun t s wr => ∃ (n : Nat) (out : ByteArray), n ≤ 1000000000 ∧ out.size + n ≤ K ∧ t = .int .i64 n ∧ s = .string out ∧ mt n n out = mt K K ⟨#[]⟩ ∧ Below w.heap.size w wr) (fun t _ _ => (intOf t).toNat)
  case atStart => exact ⟨K, ⟨#[]⟩, h1, by simp [ByteArray.size], rfl, rfl, rfl, Below.refl _ _⟩
  case round =>
    obtain ⟨n, out, hn, hsz, rfl, rfl, hm, hb⟩ := hrel
    have HM := Lib.hid hm; clear hm
    by_cases hlt : 0 < n
    · have g1 : (0 : Int) < (n : Int) := by omega
      have g2 : (0 : Int) ≤ (n : Int) % 10 := by omega
      have g3 : (n : Int) % 10 < 10 := by omega
      have hc := one_text wr (48 + (n : Int) % 10)
      have hs1 : (strOfNums [48 + (n : Int) % 10]).size = 1 := strOfNums_size _
      have hs2 : 1 + out.size ≤ 1000000000 := by omega
      have hbz := hb.size
      go_wp2
      go_roundw
      case rel => exact ⟨n / 10, _, by omega, by rw [ByteArray.size_append, hs1]; omega, by go_num, rfl, by rw [← HM.out, mt_step n out hlt]; rfl, hb.alloc (by omega) _⟩
      case measure => simp [intOf]; omega
    · obtain rfl : n = 0 := by omega
      have e0 : out = mt K K ⟨#[]⟩ := HM.out
      have hs : Hid (out.size ≤ K) := by unfold Hid; omega
      have hs2 : 1 + out.size ≤ 1000000001 := by omega
      have E := Lib.hid e0; clear e0
      go_wp2
      go_ret
      exact ⟨ret_str (by rw [E.out]; rfl), hb⟩

theorem eqStr {b1 b2 n : Nat} (va vb : Value) (xs : List ByteArray) (w : World) (hn : xs.length = n) (hx : n ≤ 1048576) (ha : w.ownsRow b1 9 1 va n (xs.map Value.string)) (hb : w.ownsRow b2 9 1 vb n (xs.map Value.string)) :
    Calls Try.prog 31 #[va, vb] w (QuietTrue w) := by
  by_cases h0 : n = 0
  · subst h0
    obtain rfl : xs = [] := List.eq_nil_of_length_eq_zero hn
    exact eqStr_none va vb w ha hb
  · rcases Go.Joins.ownsRow_forms ha with ⟨_, h⟩ | ⟨g, cap, rfl⟩
    · exact absurd h h0
    · rcases Go.Joins.ownsRow_forms hb with ⟨_, h⟩ | ⟨g', cap', rfl⟩
      · exact absurd h h0
      · exact eqStr_some xs w hn hx ha hb


def marks (K n : Nat) : List ByteArray := (List.range n).map fun i => mtext (K + i)
theorem marks_length (K n : Nat) : (marks K n).length = n := by simp [marks]
theorem marks_succ (K n : Nat) : marks K (n + 1) = marks K n ++ [mtext (K + n)] := by simp [marks, List.range_succ]
theorem set_mark (l : List ByteArray) (K k : Nat) (x : ByteArray) (r : List ByteArray) (h : l.drop k = x :: r) :
    ((marks K k ++ l.drop k).map Value.string).set k (.string (mtext (K + k))) = (marks K (k + 1) ++ l.drop (k + 1)).map Value.string := by
  have h1 : l.drop (k + 1) = r := by rw [← List.drop_drop, h]; rfl
  rw [h1, h, marks_succ, List.map_append, List.set_append_right _ _ (by simp [marks_length])]
  simp [marks_length]
def MarkedPost (b K n : Nat) (v : Value) (w : World) (e : Ending) (w' : World) : Prop :=
  e = .returned (.int .i64 (K + n : Nat)) ∧ w'.ownsRow b 9 1 v n ((marks K n).map Value.string) ∧ w.grownBy w' v.ownBlock
set_option maxRecDepth 100000 in
theorem markStr_none {b : Nat} (v : Value) (w : World) (K : Nat) (ha : w.ownsRow b 9 1 v 0 []) :
    Calls Try.prog 32 #[v, .int .i64 K] w (MarkedPost b K 0 v w) := by
  have hp : MarkedPost b K 0 v w (.returned (.int .i64 (K + 0 : Nat))) w := ⟨rfl, ha, World.grownBy.refl _ _⟩
  have HP := Lib.hid hp; clear hp
  obtain ⟨a, c, rfl⟩ : ∃ a c, v = .slice a 0 c := by rcases Go.Joins.ownsRow_forms ha with ⟨rfl, _⟩ | ⟨g, cap, rfl⟩ <;> exact ⟨_, _, rfl⟩
  clear ha
  go_enter Try.func32, Try.ntmps32
  go_wp2
  go_loop [1, 5] (fun t i => i = .int .i64 0 ∧ t = .int .i64 K) (fun _ _ => 0)
  case atStart => exact ⟨rfl, rfl⟩
  case round =>
    obtain ⟨rfl, rfl⟩ := hrel
    go_wp2
    go_ret
    exact HP.out
set_option maxHeartbeats 1000000 in
set_option maxRecDepth 100000 in
theorem markStr_some {b g n c : Nat} (xs : List ByteArray) (w : World) (K : Nat) (hK0 : 0 < K) (hK : K ≤ 1000) (hn : xs.length = n) (hx : n ≤ 1048576)
    (ha : w.ownsRow b 9 1 (.slice (some ⟨g, 0, none⟩) n c) n (xs.map Value.string)) :
    Calls Try.prog 32 #[.slice (some ⟨g, 0, none⟩) n c, .int .i64 K] w (MarkedPost b K n (.slice (some ⟨g, 0, none⟩) n c) w) := by
  have HN := Lib.hid hn; clear hn
  have HA := Lib.hid ha; clear ha
  go_enter Try.func32, Try.ntmps32
  go_wp2
  go_loopw [1, 5] (fun t i wr => ∃ k : Nat, k ≤ n ∧ i = .int .i64 k ∧ t = .int .i64 (K + k : Nat) ∧ wr.ownsRow b 9 1 (.slice (some ⟨g, 0, none⟩) n c) n ((marks K k ++ xs.drop k).map Value.string) ∧ w.grownBy wr (some g)) (fun _ i _ => n - (intOf i).toNat)
  case atStart => exact ⟨0, Nat.zero_le _, rfl, rfl, HA.out, World.grownBy.refl _ _⟩
  case round =>
    obtain ⟨k, hk, rfl, rfl, hown, hg⟩ := hrel
    have hgb := hown.lt g rfl
    by_cases hlt : k < n
    · have h0 : (0 : Int) ≤ (k : Int) := by omega
      have h1 : (k : Int) < (n : Int) := by omega
      obtain ⟨x, r, hxr⟩ : ∃ x r, xs.drop k = x :: r := ⟨_, _, List.drop_eq_getElem_cons (by rw [HN.out]; exact hlt)⟩
      have hset := set_mark xs K k x r hxr
      have HS := Lib.hid hset; clear hset hxr
      have HO := Lib.hid hown; clear hown
      go_wp2_with fail
      refine (markText (K + k) _ (by omega) (by omega)).mono ?_
      rintro e w1 ⟨rfl, hb1⟩
      have hown1 := own_below HO.out hb1
      have hst := hown1.stored k (.string (mtext (K + k)))
      rw [HS.out] at hst
      have hcell : ∃ v, w1.cell? ⟨g, k, none⟩ = some v := by
        rw [hown1.cellAt k (by omega)]
        exact ⟨_, List.getElem?_eq_getElem (by have := hown1.1; omega)⟩
      obtain ⟨vc, hcell⟩ := hcell
      have hfz := hown1.frozenAt k
      have hg1 : w.grownBy (w1.setCell ⟨g, k, none⟩ (.string (mtext (K + k)))) (some g) := (hg.trans (grown_below hb1 _)).trans hst.2
      have HST := Lib.hid hst.1; clear hst
      have HG := Lib.hid hg1; clear hg1 hown1 hb1
      go_wp2
      go_roundw
      case rel => exact ⟨k + 1, by omega, by go_num, by go_num, HST.out, HG.out⟩
      case measure => simp [intOf]; omega
    · obtain rfl : k = n := by omega
      have hown' : wr.ownsRow b 9 1 (.slice (some ⟨g, 0, none⟩) k c) k ((marks K k).map Value.string) := by
        rw [List.drop_of_length_le (by rw [HN.out]; exact Nat.le_refl _), List.append_nil] at hown; exact hown
      clear hown
      go_wp2
      go_ret
      exact ⟨rfl, hown', hg⟩
theorem markStr {b n : Nat} (v : Value) (xs : List ByteArray) (w : World) (K : Nat) (hK0 : 0 < K) (hK : K ≤ 1000) (hn : xs.length = n) (hx : n ≤ 1048576) (ha : w.ownsRow b 9 1 v n (xs.map Value.string)) :
    Calls Try.prog 32 #[v, .int .i64 K] w (MarkedPost b K n v w) := by
  by_cases h0 : n = 0
  · subst h0
    obtain rfl : xs = [] := List.eq_nil_of_length_eq_zero hn
    exact markStr_none v w K ha
  · rcases Go.Joins.ownsRow_forms ha with ⟨_, h⟩ | ⟨g, cap, rfl⟩
    · exact absurd h h0
    · exact markStr_some xs w K hK0 hK hn hx ha

set_option maxRecDepth 100000 in
theorem heldStr_none {b : Nat} (v : Value) (w : World) (K : Nat) (ha : w.ownsRow b 9 1 v 0 []) :
    Calls Try.prog 33 #[v, .int .i64 K] w fun e w' => e = .returned (.int .i64 (K + 0 : Nat)) ∧ Below w.heap.size w w' := by
  obtain ⟨a, c, rfl⟩ : ∃ a c, v = .slice a 0 c := by rcases Go.Joins.ownsRow_forms ha with ⟨rfl, _⟩ | ⟨g, cap, rfl⟩ <;> exact ⟨_, _, rfl⟩
  clear ha
  go_enter Try.func33, Try.ntmps33
  go_wp2
  go_loop [1, 4, 5] (fun t _ i => i = .int .i64 0 ∧ t = .int .i64 K) (fun _ _ _ => 0)
  case atStart => exact ⟨rfl, rfl⟩
  case round =>
    obtain ⟨rfl, rfl⟩ := hrel
    go_wp2
    go_ret
    exact ⟨rfl, Below.refl _ _⟩
set_option maxHeartbeats 1000000 in
set_option maxRecDepth 100000 in
theorem heldStr_some {b g n c : Nat} (w : World) (K : Nat) (hK0 : 0 < K) (hK : K ≤ 1000) (hx : n ≤ 1048576)
    (ha : w.ownsRow b 9 1 (.slice (some ⟨g, 0, none⟩) n c) n ((marks K n).map Value.string)) :
    Calls Try.prog 33 #[.slice (some ⟨g, 0, none⟩) n c, .int .i64 K] w fun e w' => e = .returned (.int .i64 (K + n : Nat)) ∧ Below w.heap.size w w' := by
  have HA := Lib.hid ha
  have hgw := ha.lt g rfl
  clear ha
  go_enter Try.func33, Try.ntmps33
  go_wp2
  go_loopw [1, 4, 5] (fun t _ i wr => ∃ k : Nat, k ≤ n ∧ i = .int .i64 k ∧ t = .int .i64 (K + k : Nat) ∧ Below w.heap.size w wr) (fun _ _ i _ => n - (intOf i).toNat)
  case atStart => exact ⟨0, Nat.zero_le _, rfl, rfl, Below.refl _ _⟩
  case round =>
    obtain ⟨k, hk, rfl, rfl, hb⟩ := hrel
    by_cases hlt : k < n
    · have h0 : (0 : Int) ≤ (k : Int) := by omega
      have h1 : (k : Int) < (n : Int) := by omega
      have hcw : w.cell? ⟨g, k, none⟩ = some (.string (mtext (K + k))) := by
        rw [HA.out.cellAt k (by omega)]
        simp [marks, hlt]
      have hcr : wr.cell? ⟨g, k, none⟩ = some (.string (mtext (K + k))) := (hb.cell (by exact hgw.2)).trans hcw
      have hgr : g < wr.heap.size := Nat.lt_of_lt_of_le hgw.2 hb.size
      have HCW := Lib.hid hcw; clear hcw
      obtain ⟨x, hx1⟩ : ∃ x, mtext (K + k) = x := ⟨_, rfl⟩
      have m1 : ∀ W, Calls Try.prog 46 #[.int .i64 (K + k : Nat)] W fun e w' => e = .returned (.string x) ∧ Below W.heap.size W w' := fun W => by
        rw [← hx1]; exact markText (K + k) W (by omega) (by omega)
      rw [hx1] at hcr
      clear hx1
      have M1 := Lib.hid m1; clear m1
      go_wp2_with fail
      go_region_held3 (fun w' => w'.cell? ⟨g, k, none⟩ = some (.string x) ∧ Below w.heap.size w w') (first | exact ⟨hcr, hb.drew⟩ | exact ⟨(hb1.cell (by exact hgr)).trans hcr, hb.drew.trans (hb1.mono hb.size)⟩) (first | (go_at_call 46; refine (M1.out _).mono ?_; rintro e w1 ⟨rfl, hb1⟩) | fail)
      all_goals
        have hb2 : Below w.heap.size w w1 := hb.drew.trans (hb1.mono hb.size)
        clear hb1
        go_wp2
        go_roundw
        case rel => exact ⟨k + 1, by omega, by go_num, by go_num, hb2⟩
        case measure => simp [intOf]; omega
    · obtain rfl : k = n := by omega
      go_wp2
      go_ret
      exact ⟨rfl, hb⟩

theorem heldStr {b n : Nat} (v : Value) (w : World) (K : Nat) (hK0 : 0 < K) (hK : K ≤ 1000) (hx : n ≤ 1048576) (ha : w.ownsRow b 9 1 v n ((marks K n).map Value.string)) :
    Calls Try.prog 33 #[v, .int .i64 K] w fun e w' => e = .returned (.int .i64 (K + n : Nat)) ∧ Below w.heap.size w w' := by
  by_cases h0 : n = 0
  · subst h0
    exact heldStr_none v w K ha
  · rcases Go.Joins.ownsRow_forms ha with ⟨_, h⟩ | ⟨g, cap, rfl⟩
    · exact absurd h h0
    · exact heldStr_some w K hK0 hK hx ha
end Go.Proofs.Ytdplgjjpgeoppaa
