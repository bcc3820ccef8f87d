/- The three helpers of the exact laws on lists of ints: equal lists are found equal; the marks are written into an owned list; the marks are found again. Of owned lists of at most 1048576 ints and marks up to ten digits. Lines of a board as a list of triples of numbers, and as cells. Of no program. Lists of lines in memory: append of one line; the three helpers of the exact laws: equal lists are found equal; the marks are written into an owned list; the marks are found again. Of owned lists of at most 1048576 lines. The hole beside a hole, and the line from a hole in a direction: the program's and the model's. The hole beside a hole in the model's own way. LinesOf of both. LineBetween, LinesThrough, CountLines, IsLoneHole and TurnLine of both. LinesThrough and IsLoneHole of both. Lines as numbers: every line has its reverse, the middle lies between, no line is listed twice, so their number is even. Of no program. -/
import Derived.Test.YtgkmapemnlgldaaProg
import Derived.Test.YtgkmapemnlgldaaBoards
import Derived.WalkKit
import Derived.WalkSpells
import Derived.BigQuiet
import Derived.Deep.QuietTactic
import Derived.Deep.Draws
import Derived.Lib.Hide
import Derived.Lib.SmallJoins
import Derived.IntWalk
namespace Go.Proofs.Ytgkmapemnlgldaa
open Go.RowKit
variable {T T1 T2 : TypeId}
/-- A list of ints as values. -/
def iv (xs : List Int) : List Value := xs.map (Value.int .i64)
/-- It returns a list of ints in new memory. -/
def OwnIv (xs : List Int) (w : World) (e : Ending) (w' : World) : Prop :=
  ∃ v, e = .returned v ∧ w'.ownsRow w.heap.size 3 1 v xs.length (iv xs) ∧ Below w.heap.size w w'
theorem iv_snoc (xs : List Int) (x : Int) : iv (xs ++ [x]) = iv xs ++ [Value.int .i64 x] := by simp [iv]
theorem iv_len (xs : List Int) : (iv xs).length = xs.length := by simp [iv]
/-- It returns v, and only draws. -/
def QuietRet (v : Value) (w : World) (e : Ending) (w' : World) : Prop := e = .returned v ∧ ∃ n, w' = w.drewN n
theorem drewN_ownI {w : World} {base : Nat} {e : TypeId} {size : Nat} {v : Value} {n : Nat} {xs : List Value} (h : w.ownsRow base e size v n xs) (q : Nat) : (w.drewN q).ownsRow base e size v n xs := h
theorem drewN_belowI (w : World) (q : Nat) : Below w.heap.size w (w.drewN q) := ⟨rfl, rfl, rfl, Nat.le_refl _, fun _ _ => rfl⟩
set_option maxRecDepth 100000 in
theorem eqInt_none {b1 b2 : Nat} (va vb : Value) (w : World) (ha : w.ownsRow b1 T1 1 va 0 []) (hb : w.ownsRow b2 T2 1 vb 0 []) :
    Calls Try.prog 22 #[va, vb] w (QuietRet (.bool true) w) := by
  obtain ⟨a, c, rfl⟩ : ∃ a c, va = .slice a 0 c := by rcases Go.Joins.ownsRow_forms ha with ⟨rfl, _⟩ | ⟨g, cap, rfl⟩ <;> exact ⟨_, _, rfl⟩
  obtain ⟨a', c', rfl⟩ : ∃ a c, vb = .slice a 0 c := by rcases Go.Joins.ownsRow_forms hb with ⟨rfl, _⟩ | ⟨g, cap, rfl⟩ <;> exact ⟨_, _, rfl⟩
  clear ha hb
  go_enter Try.func22, Try.ntmps22
  go_wp2
  go_loop [5, 11, 12, 13, 14] (fun i _ _ _ _ => i = .int .i64 0) (fun _ _ _ _ _ => 0)
  case atStart => rfl
  case round =>
    subst hrel
    go_wp2
    go_ret
    exact ⟨rfl, 0, rfl⟩
set_option maxHeartbeats 1000000 in
set_option maxRecDepth 100000 in
theorem eqInt_some {b1 b2 ga gb n ca cb : Nat} (xs : List Int) (w : World) (hn : xs.length = n) (hx : n ≤ 1048576)
    (ha : w.ownsRow b1 T1 1 (.slice (some ⟨ga, 0, none⟩) n ca) n (iv xs)) (hb : w.ownsRow b2 T2 1 (.slice (some ⟨gb, 0, none⟩) n cb) n (iv xs)) :
    Calls Try.prog 22 #[.slice (some ⟨ga, 0, none⟩) n ca, .slice (some ⟨gb, 0, none⟩) n cb] w (QuietRet (.bool true) w) := by
  have HN := Lib.hid hn; clear hn
  have HA := Lib.hid ha; clear ha
  have HB := Lib.hid hb; clear hb
  go_enter Try.func22, Try.ntmps22
  go_wp2
  go_loopw [5] (fun i wr => ∃ k q : Nat, k ≤ n ∧ i = .int .i64 k ∧ wr = w.drewN q) (fun i _ => n - (intOf i).toNat)
  case atStart => exact ⟨0, 0, Nat.zero_le _, rfl, rfl⟩
  case round =>
    obtain ⟨k, q, hk, rfl, rfl⟩ := hrel
    by_cases hlt : k < n
    · have h0 : (0 : Int) ≤ (k : Int) := by omega
      have h1 : (k : Int) < (n : Int) := by omega
      obtain ⟨x, hxk⟩ : ∃ x, xs[k]? = some x := ⟨_, List.getElem?_eq_getElem (by rw [HN.out]; exact hlt)⟩
      have hA : w.cell? ⟨ga, k, none⟩ = some (.int .i64 x) := own_cell HA.out k hlt _ (by simp [iv, hxk])
      have hB : w.cell? ⟨gb, k, none⟩ = some (.int .i64 x) := own_cell HB.out k hlt _ (by simp [iv, hxk])
      clear hxk
      go_wp2_with fail
      go_quiet (fail)
      go_wp2
      go_roundw
      case rel => exact ⟨k + 1, _, by omega, by go_num, rfl⟩
      case measure => simp [intOf]; omega
    · go_wp2
      go_ret
      exact ⟨rfl, q, rfl⟩
theorem eqInt {b1 b2 n : Nat} (va vb : Value) (xs : List Int) (w : World) (hn : xs.length = n) (hx : n ≤ 1048576) (ha : w.ownsRow b1 T1 1 va n (iv xs)) (hb : w.ownsRow b2 T2 1 vb n (iv xs)) :
    Calls Try.prog 22 #[va, vb] w (QuietRet (.bool true) w) := by
  by_cases h0 : n = 0
  · subst h0
    obtain rfl : xs = [] := List.eq_nil_of_length_eq_zero hn
    exact eqInt_none va vb w ha hb
  · rcases Go.Joins.ownsRow_forms ha with ⟨_, h⟩ | ⟨g, cap, rfl⟩
    · exact absurd h h0
    · rcases Go.Joins.ownsRow_forms hb with ⟨_, h⟩ | ⟨g', cap', rfl⟩
      · exact absurd h h0
      · exact eqInt_some xs w hn hx ha hb
/-- The n marks from K on. -/
def imarks (K n : Nat) : List Int := (List.range n).map fun (i : Nat) => ((K + i : Nat) : Int)
theorem imarks_length (K n : Nat) : (imarks K n).length = n := by simp [imarks]
theorem imarks_succ (K n : Nat) : imarks K (n + 1) = imarks K n ++ [((K + n : Nat) : Int)] := by simp [imarks, List.range_succ]
theorem iset_mark (l : List Int) (K k : Nat) (x : Int) (r : List Int) (h : l.drop k = x :: r) :
    (iv (imarks K k ++ l.drop k)).set k (.int .i64 ((K + k : Nat) : Int)) = iv (imarks K (k + 1) ++ l.drop (k + 1)) := by
  have h1 : l.drop (k + 1) = r := by rw [← List.drop_drop, h]; rfl
  unfold iv
  rw [h1, h, imarks_succ, List.map_append, List.set_append_right _ _ (by simp [imarks_length])]
  simp [imarks_length]
def IMarked (T : TypeId) (b K n : Nat) (v : Value) (w : World) (e : Ending) (w' : World) : Prop :=
  e = .returned (.int .i64 (K + n : Nat)) ∧ w'.ownsRow b T 1 v n (iv (imarks K n)) ∧ w.grownBy w' v.ownBlock
set_option maxRecDepth 100000 in
theorem markInt_none {b : Nat} (v : Value) (w : World) (K : Nat) (ha : w.ownsRow b T 1 v 0 []) :
    Calls Try.prog 23 #[v, .int .i64 K] w (IMarked T b K 0 v w) := by
  have hp : IMarked T b K 0 v w (.returned (.int .i64 (K + 0 : Nat))) w := ⟨rfl, ha, World.grownBy.refl _ _⟩
  have HP := Lib.hid hp; clear hp
  obtain ⟨a, c, rfl⟩ : ∃ a c, v = .slice a 0 c := by rcases Go.Joins.ownsRow_forms ha with ⟨rfl, _⟩ | ⟨g, cap, rfl⟩ <;> exact ⟨_, _, rfl⟩
  clear ha
  go_enter Try.func23, Try.ntmps23
  go_wp2
  go_loop [1, 5] (fun t i => i = .int .i64 0 ∧ t = .int .i64 K) (fun _ _ => 0)
  case atStart => exact ⟨rfl, rfl⟩
  case round =>
    obtain ⟨rfl, rfl⟩ := hrel
    go_wp2
    go_ret
    exact HP.out
set_option maxHeartbeats 1000000 in
set_option maxRecDepth 100000 in
theorem markInt_some {b g n c : Nat} (xs : List Int) (w : World) (K : Nat) (hK : K ≤ 1000000000) (hn : xs.length = n) (hx : n ≤ 1048576)
    (ha : w.ownsRow b T 1 (.slice (some ⟨g, 0, none⟩) n c) n (iv xs)) :
    Calls Try.prog 23 #[.slice (some ⟨g, 0, none⟩) n c, .int .i64 K] w (IMarked T b K n (.slice (some ⟨g, 0, none⟩) n c) w) := by
  have HN := Lib.hid hn; clear hn
  have HA := Lib.hid ha; clear ha
  go_enter Try.func23, Try.ntmps23
  go_wp2
  go_loopw [1, 5] (fun t i wr => ∃ k : Nat, k ≤ n ∧ i = .int .i64 k ∧ t = .int .i64 (K + k : Nat) ∧ Hid (wr.ownsRow b T 1 (.slice (some ⟨g, 0, none⟩) n c) n (iv (imarks K k ++ xs.drop k))) ∧ Hid (w.grownBy wr (some g))) (fun _ i _ => n - (intOf i).toNat)
  case atStart => exact ⟨0, Nat.zero_le _, rfl, rfl, HA, World.grownBy.refl _ _⟩
  case round =>
    obtain ⟨k, hk, rfl, rfl, HO, hg⟩ := hrel
    by_cases hlt : k < n
    · have h0 : (0 : Int) ≤ (k : Int) := by omega
      have h1 : (k : Int) < (n : Int) := by omega
      obtain ⟨x, r, hxr⟩ : ∃ x r, xs.drop k = x :: r := ⟨_, _, List.drop_eq_getElem_cons (by rw [HN.out]; exact hlt)⟩
      have hset := iset_mark xs K k x r hxr
      have HS := Lib.hid hset; clear hset hxr
      have hst := HO.out.stored k (.int .i64 ((K + k : Nat) : Int))
      rw [HS.out] at hst
      have hcell : ∃ v, wr.cell? ⟨g, k, none⟩ = some v := by
        rw [HO.out.cellAt k (by omega)]
        exact ⟨_, List.getElem?_eq_getElem (by have := HO.out.1; omega)⟩
      obtain ⟨vc, hcell⟩ := hcell
      have hfz := HO.out.frozenAt k
      have HG := Lib.hid (hg.out.trans hst.2)
      have HST := Lib.hid hst.1; clear hst
      go_wp2
      go_roundw
      case rel => exact ⟨k + 1, by omega, by go_num, by go_num, HST, HG⟩
      case measure => simp [intOf]; omega
    · obtain rfl : k = n := by omega
      have hown' : Hid (wr.ownsRow b T 1 (.slice (some ⟨g, 0, none⟩) k c) k (iv (imarks K k))) := by
        have := HO.out
        unfold Hid
        rw [List.drop_of_length_le (by rw [HN.out]; exact Nat.le_refl _), List.append_nil] at this; exact this
      clear HO
      go_wp2
      go_ret
      exact ⟨rfl, hown'.out, hg.out⟩
theorem markInt {b n : Nat} (v : Value) (xs : List Int) (w : World) (K : Nat) (hK : K ≤ 1000000000) (hn : xs.length = n) (hx : n ≤ 1048576) (ha : w.ownsRow b T 1 v n (iv xs)) :
    Calls Try.prog 23 #[v, .int .i64 K] w (IMarked T b K n v w) := by
  by_cases h0 : n = 0
  · subst h0
    obtain rfl : xs = [] := List.eq_nil_of_length_eq_zero hn
    exact markInt_none v w K ha
  · rcases Go.Joins.ownsRow_forms ha with ⟨_, h⟩ | ⟨g, cap, rfl⟩
    · exact absurd h h0
    · exact markInt_some xs w K hK hn hx ha
set_option maxRecDepth 100000 in
theorem heldInt_none {b : Nat} (v : Value) (w : World) (K : Nat) (ha : w.ownsRow b T 1 v 0 []) :
    Calls Try.prog 24 #[v, .int .i64 K] w (QuietRet (.int .i64 (K + 0 : Nat)) w) := by
  obtain ⟨a, c, rfl⟩ : ∃ a c, v = .slice a 0 c := by rcases Go.Joins.ownsRow_forms ha with ⟨rfl, _⟩ | ⟨g, cap, rfl⟩ <;> exact ⟨_, _, rfl⟩
  clear ha
  go_enter Try.func24, Try.ntmps24
  go_wp2
  go_loop [1, 4, 5] (fun t _ i => i = .int .i64 0 ∧ t = .int .i64 K) (fun _ _ _ => 0)
  case atStart => exact ⟨rfl, rfl⟩
  case round =>
    obtain ⟨rfl, rfl⟩ := hrel
    go_wp2
    go_ret
    exact ⟨rfl, 0, rfl⟩
set_option maxHeartbeats 1000000 in
set_option maxRecDepth 100000 in
theorem heldInt_some {b g n c : Nat} (w : World) (K : Nat) (hK : K ≤ 1000000000) (hx : n ≤ 1048576)
    (ha : w.ownsRow b T 1 (.slice (some ⟨g, 0, none⟩) n c) n (iv (imarks K n))) :
    Calls Try.prog 24 #[.slice (some ⟨g, 0, none⟩) n c, .int .i64 K] w (QuietRet (.int .i64 (K + n : Nat)) w) := by
  have HA := Lib.hid ha
  clear ha
  go_enter Try.func24, Try.ntmps24
  go_wp2
  go_loopw [1, 4, 5] (fun t _ i wr => ∃ k q : Nat, k ≤ n ∧ i = .int .i64 k ∧ t = .int .i64 (K + k : Nat) ∧ wr = w.drewN q) (fun _ _ i _ => n - (intOf i).toNat)
  case atStart => exact ⟨0, 0, Nat.zero_le _, rfl, rfl, rfl⟩
  case round =>
    obtain ⟨k, q, hk, rfl, rfl, rfl⟩ := hrel
    by_cases hlt : k < n
    · have h0 : (0 : Int) ≤ (k : Int) := by omega
      have h1 : (k : Int) < (n : Int) := by omega
      have hcw : w.cell? ⟨g, k, none⟩ = some (.int .i64 ((K : Int) + k)) := own_cell HA.out k hlt _ (by simp [iv, imarks, hlt])
      go_wp2_with fail
      try go_quiet (fail)
      go_wp2
      go_roundw
      case rel => exact ⟨k + 1, _, by omega, by go_num, by go_num, rfl⟩
      case measure => simp [intOf]; omega
    · obtain rfl : k = n := by omega
      go_wp2
      go_ret
      exact ⟨rfl, _, rfl⟩
theorem heldInt {b n : Nat} (v : Value) (w : World) (K : Nat) (hK : K ≤ 1000000000) (hx : n ≤ 1048576) (ha : w.ownsRow b T 1 v n (iv (imarks K n))) :
    Calls Try.prog 24 #[v, .int .i64 K] w (QuietRet (.int .i64 (K + n : Nat)) w) := by
  by_cases h0 : n = 0
  · subst h0
    exact heldInt_none v w K ha
  · rcases Go.Joins.ownsRow_forms ha with ⟨_, h⟩ | ⟨g, cap, rfl⟩
    · exact absurd h h0
    · exact heldInt_some w K hK hx ha
end Go.Proofs.Ytgkmapemnlgldaa

namespace Go.Proofs.Ytgkmapemnlgldaa
/-- A line: From, Over, To. -/
abbrev Ln := Int × Int × Int
def lnC (l : Ln) : List Value := [.int .i64 l.1, .int .i64 l.2.1, .int .i64 l.2.2]
def lnV (l : Ln) : Value := .agg #[.int .i64 l.1, .int .i64 l.2.1, .int .i64 l.2.2]
def lv (xs : List Ln) : List Value := xs.flatMap lnC
theorem lv_append (a b : List Ln) : lv (a ++ b) = lv a ++ lv b := by simp [lv]
theorem lv_one (l : Ln) : lv [l] = lnC l := by simp [lv]
theorem lv_length (xs : List Ln) : (lv xs).length = xs.length * 3 := by
  induction xs with
  | nil => rfl
  | cons x xs ih => show (lnC x ++ lv xs).length = _; rw [List.length_append, ih]; simp [lnC]; omega
theorem lv_get {xs : List Ln} {k : Nat} {l : Ln} (h : xs[k]? = some l) : (lv xs)[k * 3]? = some (.int .i64 l.1) ∧ (lv xs)[k * 3 + 1]? = some (.int .i64 l.2.1) ∧ (lv xs)[k * 3 + 2]? = some (.int .i64 l.2.2) := by
  induction xs generalizing k with
  | nil => simp at h
  | cons x xs ih =>
    have e : lv (x :: xs) = .int .i64 x.1 :: .int .i64 x.2.1 :: .int .i64 x.2.2 :: lv xs := rfl
    cases k with
    | zero => simp at h; subst h; rw [e]; simp
    | succ k =>
      simp only [List.getElem?_cons_succ] at h
      obtain ⟨h1, h2, h3⟩ := ih h
      rw [e, show (k + 1) * 3 = k * 3 + 1 + 1 + 1 from by omega]
      simp only [List.getElem?_cons_succ]
      exact ⟨h1, h2, h3⟩
theorem lv_cells (xs : List Ln) : ∀ u ∈ lv xs, u.oneCell' = true := by
  intro u hu
  simp only [lv, List.mem_flatMap, lnC] at hu
  obtain ⟨l, _, hl⟩ := hu
  simp at hl
  rcases hl with rfl | rfl | rfl <;> rfl
/-- The index beside k in the grid, in a direction. -/
def nbr (w h k d : Nat) : Option Nat :=
  if d = 0 then (if k % w + 1 < w then some (k + 1) else none)
  else if d = 1 then (if k / w + 1 < h then some (k + w) else none)
  else if d = 2 then (if 1 ≤ k % w then some (k - 1) else none)
  else (if 1 ≤ k / w then some (k - w) else none)
/-- The hole beside k in a direction. -/
def stepN (w h z k d : Nat) : Option Nat := match nbr w h k d with
  | none => none
  | some j => if bit z j then some j else none
def lineN (w h z k d : Nat) : Option Ln := match stepN w h z k d with
  | none => none
  | some o => match stepN w h z o d with
    | none => none
    | some t => some ((k : Int), (o : Int), (t : Int))
/-- The lines of a hole in the first n directions. -/
def lineRow (w h z k n : Nat) : List Ln := (List.range n).filterMap (lineN w h z k)
theorem lineRow_zero (w h z k : Nat) : lineRow w h z k 0 = [] := rfl
theorem lineRow_no {w h z k n : Nat} (e : lineN w h z k n = none) : lineRow w h z k (n + 1) = lineRow w h z k n := by
  unfold lineRow; rw [List.range_succ, List.filterMap_append]; simp [e]
theorem lineRow_yes {w h z k n : Nat} {l : Ln} (e : lineN w h z k n = some l) : lineRow w h z k (n + 1) = lineRow w h z k n ++ [l] := by
  unfold lineRow; rw [List.range_succ, List.filterMap_append]; simp [e]
theorem lineRow_le (w h z k n : Nat) : (lineRow w h z k n).length ≤ n := by
  have := List.length_filterMap_le (lineN w h z k) (List.range n)
  simpa [lineRow] using this
/-- The lines of the holes of a list. -/
def linesOf (w h z : Nat) (ks : List Nat) : List Ln := ks.flatMap fun k => lineRow w h z k 4
theorem linesOf_snoc (w h z : Nat) (ks : List Nat) (k : Nat) : linesOf w h z (ks ++ [k]) = linesOf w h z ks ++ lineRow w h z k 4 := by simp [linesOf]
theorem linesOf_le (w h z : Nat) (ks : List Nat) : (linesOf w h z ks).length ≤ 4 * ks.length := by
  induction ks with
  | nil => simp [linesOf]
  | cons k ks ih =>
    show (lineRow w h z k 4 ++ linesOf w h z ks).length ≤ _
    rw [List.length_append, List.length_cons]
    have := lineRow_le w h z k 4
    omega
theorem linesOf_take {w h z i k : Nat} {ks : List Nat} (hk : ks[i]? = some k) : linesOf w h z (ks.take (i + 1)) = linesOf w h z (ks.take i) ++ lineRow w h z k 4 := by
  obtain ⟨hi, rfl⟩ := List.getElem?_eq_some_iff.1 hk
  rw [List.take_succ_eq_append_getElem hi, linesOf_snoc]
/-- A place of the grid. -/
theorem place_of {w h k : Nat} (hw : 0 < w) (hk : k < w * h) : k % w < w ∧ k / w < h ∧ (k / w) * w + k % w = k := by
  refine ⟨Nat.mod_lt _ hw, Nat.div_lt_of_lt_mul hk, ?_⟩
  rw [Nat.mul_comm]; exact Nat.div_add_mod k w
theorem place_in {w h x y : Nat} (hx : x < w) (hy : y < h) : y * w + x < w * h := by
  have h1 : (y + 1) * w ≤ h * w := Nat.mul_le_mul_right w hy
  rw [Nat.succ_mul] at h1
  rw [Nat.mul_comm w h]; omega
theorem nbr_lt {w h k d j : Nat} (hw : 0 < w) (hk : k < w * h) (hn : nbr w h k d = some j) : j < w * h := by
  obtain ⟨h1, h2, h3⟩ := place_of hw hk
  unfold nbr at hn
  repeat' split at hn
  all_goals first | (simp at hn; done) | (simp only [Option.some.injEq] at hn; subst hn)
  · have := place_in (x := k % w + 1) (y := k / w) (w := w) (h := h) (by omega) h2; omega
  · have := place_in (x := k % w) (y := k / w + 1) (w := w) (h := h) h1 (by omega); rw [Nat.succ_mul] at this; omega
  · omega
  · omega
theorem stepN_lt {w h z k d j : Nat} (hw : 0 < w) (hk : k < w * h) (hn : stepN w h z k d = some j) : j < w * h := by
  unfold stepN at hn
  split at hn
  · cases hn
  · rename_i j' hj
    split at hn
    · obtain rfl := Option.some.inj hn; exact nbr_lt hw hk hj
    · cases hn
/-- The line of a list with this From and this To. -/
def betwL (xs : List Ln) (f t : Int) : Option Ln := xs.find? fun l => l.1 == f && l.2.2 == t
/-- The lines of a list that contain k. -/
def onB (k : Int) (l : Ln) : Bool := l.1 == k || l.2.1 == k || l.2.2 == k
def thrL (xs : List Ln) (k : Int) : List Ln := xs.filter (onB k)
theorem split_at {α : Type} {xs : List α} {k : Nat} {l : α} (hk : xs[k]? = some l) : xs = xs.take k ++ l :: xs.drop (k + 1) := by
  obtain ⟨hi, rfl⟩ := List.getElem?_eq_some_iff.1 hk
  rw [← List.drop_eq_getElem_cons hi, List.take_append_drop]
theorem take_one {α : Type} {xs : List α} {k : Nat} {l : α} (hk : xs[k]? = some l) : xs.take (k + 1) = xs.take k ++ [l] := by
  obtain ⟨hi, rfl⟩ := List.getElem?_eq_some_iff.1 hk
  exact List.take_succ_eq_append_getElem hi
theorem find_at {α : Type} {p : α → Bool} {xs : List α} {k : Nat} {l : α} (h0 : (xs.take k).find? p = none) (hk : xs[k]? = some l) (hp : p l = true) : xs.find? p = some l := by
  rw [split_at hk, List.find?_append, h0]
  simp [hp]
theorem find_step {α : Type} {p : α → Bool} {xs : List α} {k : Nat} {l : α} (h0 : (xs.take k).find? p = none) (hk : xs[k]? = some l) (hp : p l = false) : (xs.take (k + 1)).find? p = none := by
  rw [take_one hk, List.find?_append, h0]
  simp [hp]
theorem filter_yes {α : Type} {p : α → Bool} {xs : List α} {k : Nat} {l : α} (hk : xs[k]? = some l) (hp : p l = true) : (xs.take (k + 1)).filter p = (xs.take k).filter p ++ [l] := by
  rw [take_one hk, List.filter_append]
  simp [hp]
theorem filter_no {α : Type} {p : α → Bool} {xs : List α} {k : Nat} {l : α} (hk : xs[k]? = some l) (hp : p l = false) : (xs.take (k + 1)).filter p = (xs.take k).filter p := by
  rw [take_one hk, List.filter_append]
  simp [hp]
end Go.Proofs.Ytgkmapemnlgldaa

namespace Go.Proofs.Ytgkmapemnlgldaa
open Go.RowKit
set_option linter.unusedVariables false
set_option linter.unusedSimpArgs false
/-- append(v, l) of one line, v owned: the one block with l has just been laid. -/
theorem wpList_append_line {P : Program} {ops : Array Oper} {rest : List Oper} {o : Oper} {a : Act} {Q : Exit → Act → World → Prop} {w0 : World} {f v0 t0 : Int} (hgd : o.guard = none) (s y : Operand) (t : TypeId)
    (ho : o.op = .call { callee := .builtin .append, args := #[s, y], argTypes := #[t, t] })
    (base : Nat) (e : TypeId) (i : TypeInfo) (z : Value) (ht : P.underlying t = some (.slice e)) (hi : P.info? e = some i) (hz : i.zero = some z)
    (hsize : i.size = 3) (hby : i.bytes = 24) (hzs : z.cells.size = 3)
    (v : Value) (n : Nat) (xs : List Ln) (hs : a.eval s = v) (hown : w0.ownsRow base e 3 v n (lv xs))
    (H : Nat) (hH : w0.heap.size = H) (hx : a.eval y = .slice (some ⟨H, 0, none⟩) 1 1) (hn : n ≤ 1000000000) (hbase : base ≤ w0.heap.size)
    (h : ∀ g cap w', w'.ownsRow base e 3 (.slice (some ⟨g, 0, none⟩) (n + 1) cap) (n + 1) (lv (xs ++ [(f, v0, t0)])) → (w0.alloc (.cells #[.int .i64 f, .int .i64 v0, .int .i64 t0] e)).grownBy w' v.ownBlock → Below base w0 w' → (v.ownBlock = some g ∨ g = H + 1) → wpList P ops Q rest (a.put o.dst (.slice (some ⟨g, 0, none⟩) (n + 1) cap)) w') :
    wpList P ops Q (o :: rest) a (w0.alloc (.cells #[.int .i64 f, .int .i64 v0, .int .i64 t0] e)) := by
  subst hH
  have hnb : (n + 1) * 24 ≤ 140737488355328 := by omega
  refine wpList_append_lies _ hgd s y t ho base e i z 3 24 ht hi hz hsize hby hzs (by decide) v n (lv xs) hs (hown.alloc _) ⟨w0.heap.size, 0, none⟩ 1 1 (lnC (f, v0, t0)) hx rfl
    (World.news_of_block (cs := #[.int .i64 f, .int .i64 v0, .int .i64 t0]) (t := e) (fr := (0, 0)) (heap_alloc_new w0 _)) (by intro u hu; simp [lnC] at hu; rcases hu with rfl | rfl | rfl <;> rfl) Nat.one_pos (by unfold maxLen; omega) hnb (by simp; omega) _ rfl ?_
  intro g cap w' h2 h3 h4 _
  refine h g cap w' (by rw [lv_append, lv_one]; exact h2) h3 (((Below.refl base w0).alloc hbase _).grown h3 (by simp; omega) (fun k hk => (hown.lt k hk).1)) (by simpa using h4)
theorem lines_form {w : World} {b n : Nat} {e : TypeId} {v : Value} {xs : List Value} (h : w.ownsRow b e 3 v n xs) : ∃ a c, v = .slice a n c := by
  rcases Go.Joins.ownsRow_forms h with ⟨rfl, h0⟩ | ⟨g, cap, rfl⟩
  · exact ⟨none, 0, by rw [h0]⟩
  · exact ⟨_, _, rfl⟩
theorem line_cells {w : World} {b n g c : Nat} {e : TypeId} {xs : List Ln} (h : w.ownsRow b e 3 (.slice (some ⟨g, 0, none⟩) n c) n (lv xs)) (hn : xs.length = n) {k : Nat} {l : Ln} (hk : xs[k]? = some l) :
    w.cell? ⟨g, k * 3, none⟩ = some (.int .i64 l.1) ∧ w.cell? ⟨g, k * 3 + 1, none⟩ = some (.int .i64 l.2.1) ∧ w.cell? ⟨g, k * 3 + 2, none⟩ = some (.int .i64 l.2.2) := by
  obtain ⟨hlt, _⟩ := List.getElem?_eq_some_iff.1 hk
  obtain ⟨h1, h2, h3⟩ := lv_get hk
  refine ⟨?_, ?_, ?_⟩
  · rw [h.cellAt _ (by omega)]; exact h1
  · rw [h.cellAt _ (by omega)]; exact h2
  · rw [h.cellAt _ (by omega)]; exact h3
/-- One more mark. -/
theorem vset_mark (l : List Value) (K m : Nat) (h : m < l.length) :
    (iv (imarks K m) ++ l.drop m).set m (.int .i64 ((K + m : Nat) : Int)) = iv (imarks K (m + 1)) ++ l.drop (m + 1) := by
  obtain ⟨x, hd⟩ : ∃ x, l.drop m = x :: l.drop (m + 1) := ⟨_, List.drop_eq_getElem_cons h⟩
  rw [hd, imarks_succ]
  generalize l.drop (m + 1) = r
  unfold iv
  rw [List.map_append, List.set_append_right _ _ (by simp [imarks_length])]
  simp [imarks_length]
def LMarked (b K n : Nat) (v : Value) (w : World) (e : Ending) (w' : World) : Prop :=
  e = .returned (.int .i64 (K + n * 3 : Nat)) ∧ w'.ownsRow b 76 3 v n (iv (imarks K (n * 3))) ∧ w.grownBy w' v.ownBlock
theorem own_cells3 {w : World} {b g n c k : Nat} {xs : List Value} (h : w.ownsRow b 76 3 (.slice (some ⟨g, 0, none⟩) n c) n xs) (hk : k < n) (hK : xs.length = n * 3) : ∃ v0 v1 v2, w.cell? ⟨g, k * 3, none⟩ = some v0 ∧ w.cell? ⟨g, k * 3 + 1, none⟩ = some v1 ∧ w.cell? ⟨g, k * 3 + 2, none⟩ = some v2 := by
  refine ⟨xs[k * 3]'(by omega), xs[k * 3 + 1]'(by omega), xs[k * 3 + 2]'(by omega), ?_, ?_, ?_⟩
  · rw [h.cellAt _ (by omega)]; exact List.getElem?_eq_getElem (by omega)
  · rw [h.cellAt _ (by omega)]; exact List.getElem?_eq_getElem (by omega)
  · rw [h.cellAt _ (by omega)]; exact List.getElem?_eq_getElem (by omega)
/-- Three marks more. -/
theorem mark_three {w : World} {b g n c K k : Nat} {l : List Value} (hl : l.length = n * 3) (hk : k < n) (h : w.ownsRow b 76 3 (.slice (some ⟨g, 0, none⟩) n c) n (iv (imarks K (k * 3)) ++ l.drop (k * 3))) :
    (((w.setCell ⟨g, k * 3, none⟩ (.int .i64 ((K + k * 3 : Nat) : Int))).setCell ⟨g, k * 3 + 1, none⟩ (.int .i64 ((K + (k * 3 + 1) : Nat) : Int))).setCell ⟨g, k * 3 + 2, none⟩ (.int .i64 ((K + (k * 3 + 2) : Nat) : Int))).ownsRow b 76 3 (.slice (some ⟨g, 0, none⟩) n c) n (iv (imarks K ((k + 1) * 3)) ++ l.drop ((k + 1) * 3)) ∧
    w.grownBy (((w.setCell ⟨g, k * 3, none⟩ (.int .i64 ((K + k * 3 : Nat) : Int))).setCell ⟨g, k * 3 + 1, none⟩ (.int .i64 ((K + (k * 3 + 1) : Nat) : Int))).setCell ⟨g, k * 3 + 2, none⟩ (.int .i64 ((K + (k * 3 + 2) : Nat) : Int))) (some g) := by
  have h1 := h.stored (k * 3) (.int .i64 ((K + k * 3 : Nat) : Int))
  rw [vset_mark l K (k * 3) (by omega)] at h1
  have h2 := h1.1.stored (k * 3 + 1) (.int .i64 ((K + (k * 3 + 1) : Nat) : Int))
  rw [vset_mark l K (k * 3 + 1) (by omega)] at h2
  have h3 := h2.1.stored (k * 3 + 2) (.int .i64 ((K + (k * 3 + 2) : Nat) : Int))
  rw [show k * 3 + 1 + 1 = k * 3 + 2 from rfl, vset_mark l K (k * 3 + 2) (by omega)] at h3
  rw [show (k + 1) * 3 = k * 3 + 2 + 1 from by omega]
  exact ⟨h3.1, h1.2.trans (h2.2.trans h3.2)⟩
theorem mark_cells {w : World} {b g n c K k : Nat} (h : w.ownsRow b 76 3 (.slice (some ⟨g, 0, none⟩) n c) n (iv (imarks K (n * 3)))) (hk : k < n) :
    w.cell? ⟨g, k * 3, none⟩ = some (.int .i64 ((K : Int) + (k : Int) * 3)) ∧ w.cell? ⟨g, k * 3 + 1, none⟩ = some (.int .i64 ((K : Int) + (k : Int) * 3 + 1)) ∧ w.cell? ⟨g, k * 3 + 2, none⟩ = some (.int .i64 ((K : Int) + (k : Int) * 3 + 2)) := by
  have e : ∀ j, j < n * 3 → (iv (imarks K (n * 3)))[j]? = some (.int .i64 ((K + j : Nat) : Int)) := fun j hj => by simp [iv, imarks, hj]
  refine ⟨?_, ?_, ?_⟩
  · rw [h.cellAt _ (by omega), e _ (by omega)]; simp
  · rw [h.cellAt _ (by omega), e _ (by omega)]; simp; omega
  · rw [h.cellAt _ (by omega), e _ (by omega)]; simp; omega
end Go.Proofs.Ytgkmapemnlgldaa

namespace Go.Proofs.Ytgkmapemnlgldaa
open Go.RowKit
set_option linter.unusedVariables false
def dxOf (d : Nat) : Int := if d = 0 then 1 else if d = 2 then -1 else 0
def dyOf (d : Nat) : Int := if d = 1 then 1 else if d = 0 ∨ d = 2 then 0 else -1
set_option maxRecDepth 100000 in
theorem implStepD (d : Nat) (hd : d < 4) (w : World) : Calls Try.prog 86 #[.int .i64 d] w fun e w' => e = .returned (.tuple #[.int .i64 (dxOf d), .int .i64 (dyOf d)]) ∧ w = w' := by
  match d, hd with
  | 0, _ | 1, _ | 2, _ | 3, _ =>
    go_enter Try.func86, Try.ntmps86
    go_wp2
    go_ret2
    exact ⟨rfl, rfl⟩
set_option maxRecDepth 100000 in
theorem implIndex (W H Z x y m N : Int) (w : World) (h0 : y * W = m) (h : m + x = N) (hx : 0 ≤ x) (hx' : x ≤ 7) (hm : m ≤ 49) (hm' : 0 ≤ m) : Calls Try.prog 87 #[.agg #[.int .i64 W, .int .i64 H, .int .i64 Z], .int .i64 x, .int .i64 y] w fun e w' => e = .returned (.int .i64 N) ∧ Below w.heap.size w w' := by
  go_enter Try.func87, Try.ntmps87
  go_wp2
  go_ret
  exact ⟨rfl, (Below.refl _ _).alloc (Nat.le_refl _) _⟩
set_option maxRecDepth 100000 in
theorem beside_out {W H : Int} {z k d : Nat} {x y dx dy X Y : Int} (w : World) (hw7 : W ≤ 7) (hh7 : H ≤ 7) (hd : d < 4)
    (hp : Hid (∀ w, Calls Try.prog 85 #[.agg #[.int .i64 W, .int .i64 H, .int .i64 z], .int .i64 k] w fun e w' => e = .returned (.tuple #[.int .i64 x, .int .i64 y]) ∧ Below w.heap.size w w'))
    (hs : Hid (∀ w, Calls Try.prog 86 #[.int .i64 d] w fun e w' => e = .returned (.tuple #[.int .i64 dx, .int .i64 dy]) ∧ w = w'))
    (hX : x + dx = X) (hY : y + dy = Y) (x0 : -1 ≤ X) (x7 : X ≤ 7) (y0 : -1 ≤ Y) (y7 : Y ≤ 7) (hout : X < 0 ∨ W ≤ X ∨ Y < 0 ∨ H ≤ Y) :
    Calls Try.prog 80 #[.agg #[.int .i64 W, .int .i64 H, .int .i64 z], .int .i64 k, .int .i64 d] w fun e w' => e = .returned (.tuple #[.int .i64 0, .bool false]) ∧ Below w.heap.size w w' := by
  by_cases c0 : X < 0
  · go_enter Try.func80, Try.ntmps80
    go_wp2_with fail
    have B0 := Lib.hid (box_new W H z w)
    generalize w.alloc (.cells #[.int .i64 W, .int .i64 H, .int .i64 z] 25) = W1 at *
    refine (hp.out _).mono ?_
    rintro e w1 ⟨rfl, hb⟩
    obtain ⟨c0, c1, c2, hlt, hb1⟩ := B0.out.later hb
    clear hb B0
    go_wp2_with fail
    refine (hs.out _).mono ?_
    rintro e w2 ⟨rfl, rfl⟩
    go_wp2_with fail
    go_ret2
    exact ⟨rfl, hb1⟩
  · have hout' : W ≤ X ∨ Y < 0 ∨ H ≤ Y := by omega
    clear hout
    by_cases c1 : W ≤ X
    · go_enter Try.func80, Try.ntmps80
      go_wp2_with fail
      have B0 := Lib.hid (box_new W H z w)
      generalize w.alloc (.cells #[.int .i64 W, .int .i64 H, .int .i64 z] 25) = W1 at *
      refine (hp.out _).mono ?_
      rintro e w1 ⟨rfl, hb⟩
      obtain ⟨c0, c1, c2, hlt, hb1⟩ := B0.out.later hb
      clear hb B0
      go_wp2_with fail
      refine (hs.out _).mono ?_
      rintro e w2 ⟨rfl, rfl⟩
      go_wp2_with fail
      go_ret2
      exact ⟨rfl, hb1⟩
    · have hout : Y < 0 ∨ H ≤ Y := by omega
      clear hout'
      by_cases c2 : Y < 0
      · go_enter Try.func80, Try.ntmps80
        go_wp2_with fail
        have B0 := Lib.hid (box_new W H z w)
        generalize w.alloc (.cells #[.int .i64 W, .int .i64 H, .int .i64 z] 25) = W1 at *
        refine (hp.out _).mono ?_
        rintro e w1 ⟨rfl, hb⟩
        obtain ⟨c0, c1, c2, hlt, hb1⟩ := B0.out.later hb
        clear hb B0
        go_wp2_with fail
        refine (hs.out _).mono ?_
        rintro e w2 ⟨rfl, rfl⟩
        go_wp2_with fail
        go_ret2
        exact ⟨rfl, hb1⟩
      · have c3 : H ≤ Y := by omega
        clear hout
        go_enter Try.func80, Try.ntmps80
        go_wp2_with fail
        have B0 := Lib.hid (box_new W H z w)
        generalize w.alloc (.cells #[.int .i64 W, .int .i64 H, .int .i64 z] 25) = W1 at *
        refine (hp.out _).mono ?_
        rintro e w1 ⟨rfl, hb⟩
        obtain ⟨c0, c1, c2, hlt, hb1⟩ := B0.out.later hb
        clear hb B0
        go_wp2_with fail
        refine (hs.out _).mono ?_
        rintro e w2 ⟨rfl, rfl⟩
        go_wp2_with fail
        go_ret2
        exact ⟨rfl, hb1⟩
set_option maxRecDepth 100000 in
theorem beside_in {W H : Int} {z k d j : Nat} {x y dx dy X Y m : Int} (w : World) (hw7 : W ≤ 7) (hh7 : H ≤ 7) (hd : d < 4)
    (hp : Hid (∀ w, Calls Try.prog 85 #[.agg #[.int .i64 W, .int .i64 H, .int .i64 z], .int .i64 k] w fun e w' => e = .returned (.tuple #[.int .i64 x, .int .i64 y]) ∧ Below w.heap.size w w'))
    (hs : Hid (∀ w, Calls Try.prog 86 #[.int .i64 d] w fun e w' => e = .returned (.tuple #[.int .i64 dx, .int .i64 dy]) ∧ w = w'))
    (hX : x + dx = X) (hY : y + dy = Y) (x0 : 0 ≤ X) (x7 : X < W) (y0 : 0 ≤ Y) (y7 : Y < H) (hm : Hid (Y * W = m)) (hj : Hid (m + X = j)) (m0 : 0 ≤ m) (m7 : m ≤ 49) (hj49 : j < 49) (b : Bool) (hbit : Hid (bit z j = b)) :
    Calls Try.prog 80 #[.agg #[.int .i64 W, .int .i64 H, .int .i64 z], .int .i64 k, .int .i64 d] w fun e w' => e = .returned (.tuple #[.int .i64 (if b then (j : Int) else 0), .bool b]) ∧ Below w.heap.size w w' := by
  have C1 := Lib.hid (fun w => implIndex W H z X Y m j w hm.out hj.out x0 (by omega) m7 m0)
  have C2 := Lib.hid (fun w => implBit W H z j w hj49)
  go_enter Try.func80, Try.ntmps80
  go_wp2_with fail
  have B0 := Lib.hid (box_new W H z w)
  generalize w.alloc (.cells #[.int .i64 W, .int .i64 H, .int .i64 z] 25) = W1 at *
  refine (hp.out _).mono ?_
  rintro e w1 ⟨rfl, hb⟩
  have B1 := Lib.hid (B0.out.later hb)
  obtain ⟨c0, c1, c2, hlt, hb1⟩ := B0.out.later hb
  clear hb B0
  go_wp2_with fail
  refine (hs.out _).mono ?_
  rintro e w2 ⟨rfl, rfl⟩
  go_wp2_with fail
  refine (C1.out _).mono ?_
  rintro e w3 ⟨rfl, hb⟩
  have B2 := Lib.hid (B1.out.later hb)
  clear c0 c1 c2 hlt hb1 hb B1
  obtain ⟨c0, c1, c2, hlt, hb1⟩ := B2.out
  go_wp2_with fail
  refine (C2.out _).mono ?_
  rintro e w4 ⟨rfl, hb⟩
  have B3 := Lib.hid (B2.out.later hb)
  clear c0 c1 c2 hlt hb1 hb B2
  rw [hbit.out]
  cases b
  · go_wp2_with fail
    go_ret2
    exact ⟨rfl, B3.out.2.2.2.2⟩
  · go_wp2_with fail
    go_ret2
    exact ⟨rfl, B3.out.2.2.2.2⟩
theorem nbr0 (a b k : Nat) : nbr a b k 0 = if k % a + 1 < a then some (k + 1) else none := rfl
theorem nbr1 (a b k : Nat) : nbr a b k 1 = if k / a + 1 < b then some (k + a) else none := rfl
theorem nbr2 (a b k : Nat) : nbr a b k 2 = if 1 ≤ k % a then some (k - 1) else none := rfl
theorem nbr3 (a b k : Nat) : nbr a b k 3 = if 1 ≤ k / a then some (k - a) else none := rfl
theorem nbr_cases {a b k d : Nat} (ha : 0 < a) (hk : k < a * b) (hd : d < 4) :
    (nbr a b k d = none ∧ (((k % a : Nat) : Int) + dxOf d < 0 ∨ (a : Int) ≤ ((k % a : Nat) : Int) + dxOf d ∨ ((k / a : Nat) : Int) + dyOf d < 0 ∨ (b : Int) ≤ ((k / a : Nat) : Int) + dyOf d)) ∨
    ∃ j m : Nat, nbr a b k d = some j ∧ j < a * b ∧ 0 ≤ ((k % a : Nat) : Int) + dxOf d ∧ ((k % a : Nat) : Int) + dxOf d < a ∧ 0 ≤ ((k / a : Nat) : Int) + dyOf d ∧ ((k / a : Nat) : Int) + dyOf d < b ∧ (((k / a : Nat) : Int) + dyOf d) * a = m ∧ (m : Int) + (((k % a : Nat) : Int) + dxOf d) = j := by
  obtain ⟨h1, h2, h3⟩ := place_of ha hk
  have hlt := fun j => nbr_lt (d := d) (j := j) ha hk
  match d, hd with
  | 0, _ =>
    rw [nbr0] at *
    rw [show dxOf 0 = 1 from rfl, show dyOf 0 = 0 from rfl]
    generalize k % a = x at *
    generalize k / a = y at *
    by_cases h : x + 1 < a
    · rw [if_pos h] at *
      exact .inr ⟨k + 1, y * a, rfl, hlt _ rfl, by omega, by omega, by omega, by omega, by simp, by omega⟩
    · rw [if_neg h]; exact .inl ⟨rfl, by omega⟩
  | 1, _ =>
    rw [nbr1] at *
    rw [show dxOf 1 = 0 from rfl, show dyOf 1 = 1 from rfl]
    generalize k % a = x at *
    generalize k / a = y at *
    by_cases h : y + 1 < b
    · rw [if_pos h] at *
      exact .inr ⟨k + a, (y + 1) * a, rfl, hlt _ rfl, by omega, by omega, by omega, by omega, by simp, by rw [Nat.succ_mul]; omega⟩
    · rw [if_neg h]; exact .inl ⟨rfl, by omega⟩
  | 2, _ =>
    rw [nbr2] at *
    rw [show dxOf 2 = -1 from rfl, show dyOf 2 = 0 from rfl]
    generalize k % a = x at *
    generalize k / a = y at *
    by_cases h : 1 ≤ x
    · rw [if_pos h] at *
      exact .inr ⟨k - 1, y * a, rfl, hlt _ rfl, by omega, by omega, by omega, by omega, by simp, by omega⟩
    · rw [if_neg h]; exact .inl ⟨rfl, by omega⟩
  | 3, _ =>
    rw [nbr3] at *
    rw [show dxOf 3 = 0 from rfl, show dyOf 3 = -1 from rfl]
    generalize k % a = x at *
    generalize k / a = y at *
    by_cases h : 1 ≤ y
    · rw [if_pos h] at *
      obtain ⟨y', rfl⟩ : ∃ y', y = y' + 1 := ⟨y - 1, by omega⟩
      rw [Nat.succ_mul] at h3
      exact .inr ⟨k - a, y' * a, rfl, hlt _ rfl, by omega, by omega, by omega, by omega, by rw [show ((y' + 1 : Nat) : Int) + -1 = (y' : Int) from by omega]; simp, by omega⟩
    · rw [if_neg h]; exact .inl ⟨rfl, by omega⟩
theorem dx_bd (d : Nat) : -1 ≤ dxOf d ∧ dxOf d ≤ 1 ∧ -1 ≤ dyOf d ∧ dyOf d ≤ 1 := by
  unfold dxOf dyOf
  repeat' split
  all_goals omega
theorem stepN_nbr {a b z k d j : Nat} (h : nbr a b k d = some j) : stepN a b z k d = if bit z j then some j else none := by simp [stepN, h]
theorem stepN_out {a b z k d : Nat} (h : nbr a b k d = none) : stepN a b z k d = none := by simp [stepN, h]
theorem Ok.nat {a b N z : Nat} (h : Ok (a : Int) (b : Int) N z) : a * b = N ∧ 0 < a ∧ a ≤ 7 ∧ 0 < b ∧ b ≤ 7 ∧ a * b ≤ 49 := by
  have h1 := h.wh; have h2 := h.w1; have h3 := h.w7; have h4 := h.h1; have h5 := h.h7; have h6 := h.n49
  have e : a * b = N := by have : ((a * b : Nat) : Int) = (N : Int) := by rw [Int.natCast_mul]; exact h1
                           omega
  omega
theorem implPlaceN {a b N z k : Nat} (h : Ok (a : Int) (b : Int) N z) (hk : k < a * b) (w : World) : Calls Try.prog 85 #[.agg #[.int .i64 a, .int .i64 b, .int .i64 z], .int .i64 k] w fun e w' => e = .returned (.tuple #[.int .i64 ((k % a : Nat) : Int), .int .i64 ((k / a : Nat) : Int)]) ∧ Below w.heap.size w w' := by
  have hn := h.nat
  have := implPlace (a : Int) (b : Int) (z : Int) k w (by omega) (by omega) (by omega)
  rw [← Int.natCast_emod, ← Int.natCast_ediv] at this
  exact this
def besideV (o : Option Nat) : Value := match o with
  | some j => .tuple #[.int .i64 j, .bool true]
  | none => .tuple #[.int .i64 0, .bool false]
theorem implBeside {a b N z k d : Nat} (h : Ok (a : Int) (b : Int) N z) (hk : k < a * b) (hd : d < 4) (w : World) :
    Calls Try.prog 80 #[.agg #[.int .i64 a, .int .i64 b, .int .i64 z], .int .i64 k, .int .i64 d] w fun e w' => e = .returned (besideV (stepN a b z k d)) ∧ Below w.heap.size w w' := by
  obtain ⟨hN, ha, ha7, hb, hb7, hab⟩ := h.nat
  obtain ⟨p1, p2, p3⟩ := place_of ha hk
  have hp := Lib.hid (fun w => implPlaceN h hk w)
  have hs := Lib.hid (fun w => implStepD d hd w)
  obtain ⟨d1, d2, d3, d4⟩ := dx_bd d
  have hc := nbr_cases ha hk hd
  generalize k % a = x at *
  generalize k / a = y at *
  rcases hc with ⟨h1, h2⟩ | ⟨j, m, h1, h2, x0, x1, y0, y1, hm, hj⟩
  · rw [stepN_out h1]
    exact beside_out w (by omega) (by omega) hd hp hs rfl rfl (by omega) (by omega) (by omega) (by omega) h2
  · rw [stepN_nbr h1]
    have hx := beside_in w (by omega) (by omega) hd hp hs rfl rfl x0 x1 y0 y1 hm hj (by omega) (by omega) (by omega) _ rfl
    cases hbit : bit z j
    · rw [hbit] at hx; exact hx
    · rw [hbit] at hx; exact hx
theorem stepN_at {a b z k d j : Nat} (ha : 0 < a) (hk : k < a * b) (h : stepN a b z k d = some j) : j < a * b := stepN_lt ha hk h
def lineV (o : Option Ln) : Value := match o with
  | some l => .tuple #[.agg #[.int .i64 l.1, .int .i64 l.2.1, .int .i64 l.2.2], .bool true]
  | none => .tuple #[.agg #[.int .i64 0, .int .i64 0, .int .i64 0], .bool false]
/-- A board's block and, behind it, the block of a line that is the result. -/
def Two (W H Z : Int) (w0 w : World) : Prop := Box w0.heap.size W H Z w0 w ∧ w.heap[w0.heap.size + 1]? = some (.cells #[.int .i64 0, .int .i64 0, .int .i64 0] 76 (0, 0)) ∧ w0.heap.size + 1 < w.heap.size
theorem two_new (W H Z : Int) (w : World) : Two W H Z w ((w.alloc (.cells #[.int .i64 W, .int .i64 H, .int .i64 Z] 25)).alloc (.cells #[.int .i64 0, .int .i64 0, .int .i64 0] 76)) := by
  refine ⟨(box_new W H Z w).later ((Below.refl _ _).alloc (Nat.le_refl _) _), ?_, by simp⟩
  have := heap_alloc_new (w.alloc (.cells #[.int .i64 W, .int .i64 H, .int .i64 Z] 25)) (.cells #[.int .i64 0, .int .i64 0, .int .i64 0] 76)
  rw [show (w.alloc (.cells #[.int .i64 W, .int .i64 H, .int .i64 Z] 25)).heap.size = w.heap.size + 1 from by simp] at this
  exact this
theorem Two.later {W H Z : Int} {w0 w w' : World} (h : Two W H Z w0 w) (hb : Below w.heap.size w w') : Two W H Z w0 w' :=
  ⟨h.1.later hb, row_later h.2.1 hb h.2.2, Nat.lt_of_lt_of_le h.2.2 hb.size⟩
set_option maxRecDepth 100000 in
theorem implLineFrom {a b N z k d : Nat} (h : Ok (a : Int) (b : Int) N z) (hk : k < a * b) (hd : d < 4) (w : World) :
    Calls Try.prog 65 #[.agg #[.int .i64 a, .int .i64 b, .int .i64 z], .int .i64 k, .int .i64 d] w fun e w' => e = .returned (lineV (lineN a b z k d)) ∧ Below w.heap.size w w' := by
  obtain ⟨hN, ha, ha7, hb, hb7, hab⟩ := h.nat
  have C1 := Lib.hid (fun w => implBeside h hk hd w)
  cases h1 : stepN a b z k d with
  | none =>
    have e1 : Hid (lineN a b z k d = none) := by unfold Hid; simp [lineN, h1]
    rw [h1] at C1
    clear h1 h hk hN
    go_enter Try.func65, Try.ntmps65
    go_wp2_with fail
    have B0 := Lib.hid (two_new a b z w)
    generalize (w.alloc (.cells #[.int .i64 (a : Int), .int .i64 (b : Int), .int .i64 (z : Int)] 25)).alloc (.cells #[.int .i64 0, .int .i64 0, .int .i64 0] 76) = W1 at *
    refine (C1.out _).mono ?_
    rintro e w1 ⟨rfl, hb1⟩
    have B1 := Lib.hid (B0.out.later hb1)
    clear hb1 B0
    unfold besideV
    obtain ⟨⟨c0, c1, c2, hlt, hbw⟩, hr, hlt2⟩ := B1.out
    obtain ⟨r0, r1, r2, f0, f1, f2⟩ := row_facts hr
    clear hr
    go_wp2_with fail
    rw [e1.out]
    exact bodyPost_ret (v := lineV none) (by simp [results, Try.results65, go_sem, lineV, r0, r1, r2]) rfl ⟨rfl, by repeat (first | exact hbw | refine set_below ?_ (by omega))⟩
  | some o =>
    have ho := stepN_at ha hk h1
    have C2 := Lib.hid (fun w => implBeside h ho hd w)
    cases h2 : stepN a b z o d with
    | none =>
      have e1 : Hid (lineN a b z k d = none) := by unfold Hid; simp [lineN, h1, h2]
      rw [h1] at C1
      rw [h2] at C2
      clear h1 h2 h hk hN
      go_enter Try.func65, Try.ntmps65
      go_wp2_with fail
      have B0 := Lib.hid (two_new a b z w)
      generalize (w.alloc (.cells #[.int .i64 (a : Int), .int .i64 (b : Int), .int .i64 (z : Int)] 25)).alloc (.cells #[.int .i64 0, .int .i64 0, .int .i64 0] 76) = W1 at *
      refine (C1.out _).mono ?_
      rintro e w1 ⟨rfl, hb1⟩
      have B1 := Lib.hid (B0.out.later hb1)
      clear hb1 B0
      unfold besideV
      obtain ⟨⟨c0, c1, c2, hlt, hbw⟩, hr, hlt2⟩ := B1.out
      obtain ⟨r0, r1, r2, f0, f1, f2⟩ := row_facts hr
      clear hr
      go_wp2_with fail
      refine (C2.out _).mono ?_
      rintro e w2 ⟨rfl, hb1⟩
      clear c0 c1 c2 hlt hbw r0 r1 r2 f0 f1 f2 hlt2
      have B2 := Lib.hid (B1.out.later hb1)
      clear hb1 B1
      unfold besideV
      obtain ⟨⟨c0, c1, c2, hlt, hbw⟩, hr, hlt2⟩ := B2.out
      obtain ⟨r0, r1, r2, f0, f1, f2⟩ := row_facts hr
      clear hr
      go_wp2_with fail
      rw [e1.out]
      exact bodyPost_ret (v := lineV none) (by simp [results, Try.results65, go_sem, lineV, r0, r1, r2]) rfl ⟨rfl, by repeat (first | exact hbw | refine set_below ?_ (by omega))⟩
    | some t =>
      have e1 : Hid (lineN a b z k d = some ((k : Int), (o : Int), (t : Int))) := by unfold Hid; simp [lineN, h1, h2]
      rw [h1] at C1
      rw [h2] at C2
      clear h1 h2 h hk hN
      go_enter Try.func65, Try.ntmps65
      go_wp2_with fail
      have B0 := Lib.hid (two_new a b z w)
      generalize (w.alloc (.cells #[.int .i64 (a : Int), .int .i64 (b : Int), .int .i64 (z : Int)] 25)).alloc (.cells #[.int .i64 0, .int .i64 0, .int .i64 0] 76) = W1 at *
      refine (C1.out _).mono ?_
      rintro e w1 ⟨rfl, hb1⟩
      have B1 := Lib.hid (B0.out.later hb1)
      clear hb1 B0
      unfold besideV
      obtain ⟨⟨c0, c1, c2, hlt, hbw⟩, hr, hlt2⟩ := B1.out
      obtain ⟨r0, r1, r2, f0, f1, f2⟩ := row_facts hr
      clear hr
      go_wp2_with fail
      refine (C2.out _).mono ?_
      rintro e w2 ⟨rfl, hb1⟩
      clear c0 c1 c2 hlt hbw r0 r1 r2 f0 f1 f2 hlt2
      have B2 := Lib.hid (B1.out.later hb1)
      clear hb1 B1
      unfold besideV
      obtain ⟨⟨c0, c1, c2, hlt, hbw⟩, hr, hlt2⟩ := B2.out
      obtain ⟨r0, r1, r2, f0, f1, f2⟩ := row_facts hr
      clear hr
      go_wp2_with fail
      rw [e1.out]
      exact bodyPost_ret (v := lineV (some ((k : Int), (o : Int), (t : Int)))) (by simp [results, Try.results65, go_sem, lineV, r0, r1, r2]) rfl ⟨rfl, by repeat (first | exact hbw | refine set_below ?_ (by omega))⟩
end Go.Proofs.Ytgkmapemnlgldaa

namespace Go.Proofs.Ytgkmapemnlgldaa
open Go.RowKit
set_option linter.unusedVariables false
set_option linter.unusedSimpArgs false
theorem dirs_cell {w : World} {q d : Nat} (f : Nat → Int) (hd : d < 4) (h : w.heap[q]? = some (.cells #[.int .i64 (f 0), .int .i64 (f 1), .int .i64 (f 2), .int .i64 (f 3)] 3 (0, 0))) : w.cell? ⟨q, d, none⟩ = some (.int .i64 (f d)) := by
  rw [cell_of_row w q d _ _ _ h]
  match d, hd with
  | 0, _ | 1, _ | 2, _ | 3, _ => rfl
theorem new_lt (w : World) (o : Obj) : w.heap.size < (w.alloc o).heap.size := by simp
theorem bit_int0 (z k : Nat) : ((z : Int) / 2 ^ k % 2 == 0) = !bit z k := by
  have h := bit_int z k
  rw [← h]
  have h1 : (z : Int) / 2 ^ k % 2 = 0 ∨ (z : Int) / 2 ^ k % 2 = 1 := by omega
  rcases h1 with h1 | h1 <;> rw [h1] <;> rfl
set_option maxHeartbeats 1000000 in
set_option maxRecDepth 100000 in
theorem specStepG {W H : Int} {z k d j : Nat} {x y X Y m R : Int} (w : World) (hd : d < 4) (hW : 1 ≤ W) (hw7 : W ≤ 7) (hh1 : 1 ≤ H) (hh7 : H ≤ 7) (hx : ((k : Int)).tmod W = x) (hy : ((k : Int)).tdiv W = y)
    (e1 : IntKind.i64.wrap (x + dxOf d) = X) (e2 : IntKind.i64.wrap (y + dyOf d) = Y) (e3 : IntKind.i64.wrap x = x) (e4 : IntKind.i64.wrap y = y) (hX0 : -1 ≤ X) (hX7 : X ≤ 7) (hY0 : -1 ≤ Y) (hY7 : Y ≤ 7)
    (hc : Hid ((inB X 0 (W - 1) = false ∧ R = -1) ∨ (inB X 0 (W - 1) = true ∧ inB Y 0 (H - 1) = false ∧ R = -1) ∨ (inB X 0 (W - 1) = true ∧ inB Y 0 (H - 1) = true ∧ Y * W = m ∧ m + X = j ∧ 0 ≤ m ∧ m ≤ 49 ∧ j < 49 ∧ R = if bit z j then (j : Int) else -1))) :
    Calls Try.prog 75 #[.agg #[.int .i64 W, .int .i64 H, .int .i64 z], .int .i64 k, .int .i64 d] w fun e w' => e = .returned (.int .i64 R) ∧ Below w.heap.size w w' := by
  have q0 : ¬ W = 0 := by omega
  have d0 : (0 : Int) ≤ (d : Int) := by omega
  have d4 : (d : Int) < 4 := by omega
  go_enter Try.func75, Try.ntmps75
  go_wp2_with fail
  have B0 := Lib.hid (box_new W H z w)
  generalize w.alloc (.cells #[.int .i64 W, .int .i64 H, .int .i64 z] 25) = W1 at *
  refine wp_region_script (by kernel_rfl) (by kernel_rfl) ?_
  refine Script.load (i := 0) (v := ?_) rfl (by kernel_rfl) (by kernel_rfl) (fun _ _ _ h => h) (by kernel_rfl) ?_ ?_
  rotate_left
  · (intro wS hSw; obtain ⟨c0, c1, c2, -, -⟩ := B0.out.later (After.trans (After.drew (After.refl _)) hSw); go_simp; try with_reducible rfl)
  try simp only [Act.put, List.getElem_toArray, List.getElem_cons_succ, List.getElem_cons_zero, List.setIfInBounds_toArray, List.set_cons_zero, List.set_cons_succ]
  refine Script.load (i := 1) (v := ?_) rfl (by kernel_rfl) (by kernel_rfl) (fun _ _ _ h => h) (by kernel_rfl) ?_ ?_
  rotate_left
  · (intro wS hSw; obtain ⟨c0, c1, c2, -, -⟩ := B0.out.later (After.trans (After.drew (After.refl _)) hSw); go_simp; try with_reducible rfl)
  try simp only [Act.put, List.getElem_toArray, List.getElem_cons_succ, List.getElem_cons_zero, List.setIfInBounds_toArray, List.set_cons_zero, List.set_cons_succ]
  refine Script.load (i := 2) (v := ?_) rfl (by kernel_rfl) (by kernel_rfl) (fun _ _ _ h => h) (by kernel_rfl) ?_ ?_
  rotate_left
  · (intro wS hSw; obtain ⟨c0, c1, c2, -, -⟩ := B0.out.later (After.trans (After.drew (After.refl _)) hSw); go_simp; try with_reducible rfl)
  try simp only [Act.put, List.getElem_toArray, List.getElem_cons_succ, List.getElem_cons_zero, List.setIfInBounds_toArray, List.set_cons_zero, List.set_cons_succ]
  refine Script.load (i := 3) (v := ?_) rfl (by kernel_rfl) (by kernel_rfl) (fun _ _ _ h => h) (by kernel_rfl) ?_ ?_
  rotate_left
  · (intro wS hSw; obtain ⟨c0, c1, c2, -, -⟩ := B0.out.later (After.trans (After.drew (After.refl _)) hSw); go_simp; try with_reducible rfl)
  try simp only [Act.put, List.getElem_toArray, List.getElem_cons_succ, List.getElem_cons_zero, List.setIfInBounds_toArray, List.set_cons_zero, List.set_cons_succ]
  refine Script.load (i := 5) (v := ?_) rfl (by kernel_rfl) (by kernel_rfl) (fun _ _ _ h => h) (by kernel_rfl) ?_ ?_
  rotate_left
  · (intro wS hSw; obtain ⟨c0, c1, c2, -, -⟩ := B0.out.later (After.trans (After.drew (After.refl _)) hSw); go_simp; try with_reducible rfl)
  try simp only [Act.put, List.getElem_toArray, List.getElem_cons_succ, List.getElem_cons_zero, List.setIfInBounds_toArray, List.set_cons_zero, List.set_cons_succ]
  refine Script.one (i := 4) rfl (by kernel_rfl) (by kernel_rfl) ?_
  intro wO hO K hK; have hSw := hO; obtain ⟨c0, c1, c2, -, -⟩ := B0.out.later (After.trans (After.drew (After.refl _)) hSw); go_simp
  clear hSw
  have hbc : After wO (wO.alloc (.cells #[.int .i64 1, .int .i64 0, .int .i64 (-1), .int .i64 0] 3)) := (Below.refl _ _).alloc (Nat.le_refl _) _
  refine hK.out _ _ hbc ?_
  clear hK K
  try simp only [Act.put, List.getElem_toArray, List.getElem_cons_succ, List.getElem_cons_zero, List.setIfInBounds_toArray, List.set_cons_zero, List.set_cons_succ]
  clear c0 c1 c2
  refine Script.load (i := 6) (v := ?_) rfl (by kernel_rfl) (by kernel_rfl) (fun _ _ _ h => h) (by kernel_rfl) ?_ ?_
  rotate_left
  · (intro wS hSw; obtain ⟨c0, c1, c2, -, -⟩ := B0.out.later (After.trans (After.drew (After.refl _)) (After.trans hO (After.trans hbc hSw))); have hn := dirs_cell dxOf hd (row_later (heap_alloc_new wO _) hSw (new_lt _ _)); go_simp; try with_reducible rfl)
  try simp only [Act.put, List.getElem_toArray, List.getElem_cons_succ, List.getElem_cons_zero, List.setIfInBounds_toArray, List.set_cons_zero, List.set_cons_succ]
  refine Script.load (i := 7) (v := ?_) rfl (by kernel_rfl) (by kernel_rfl) (fun _ _ _ h => h) (by kernel_rfl) ?_ ?_
  rotate_left
  · (intro wS hSw; obtain ⟨c0, c1, c2, -, -⟩ := B0.out.later (After.trans (After.drew (After.refl _)) (After.trans hO (After.trans hbc hSw))); have hn := dirs_cell dxOf hd (row_later (heap_alloc_new wO _) hSw (new_lt _ _)); go_simp; try with_reducible rfl)
  try simp only [Act.put, List.getElem_toArray, List.getElem_cons_succ, List.getElem_cons_zero, List.setIfInBounds_toArray, List.set_cons_zero, List.set_cons_succ]
  refine Script.load (i := 8) (v := ?_) rfl (by kernel_rfl) (by kernel_rfl) (fun _ _ _ h => h) (by kernel_rfl) ?_ ?_
  rotate_left
  · (intro wS hSw; obtain ⟨c0, c1, c2, -, -⟩ := B0.out.later (After.trans (After.drew (After.refl _)) (After.trans hO (After.trans hbc hSw))); have hn := dirs_cell dxOf hd (row_later (heap_alloc_new wO _) hSw (new_lt _ _)); go_simp; try with_reducible rfl)
  try simp only [Act.put, List.getElem_toArray, List.getElem_cons_succ, List.getElem_cons_zero, List.setIfInBounds_toArray, List.set_cons_zero, List.set_cons_succ]
  refine Script.load (i := 9) (v := ?_) rfl (by kernel_rfl) (by kernel_rfl) (fun _ _ _ h => h) (by kernel_rfl) ?_ ?_
  rotate_left
  · (intro wS hSw; obtain ⟨c0, c1, c2, -, -⟩ := B0.out.later (After.trans (After.drew (After.refl _)) (After.trans hO (After.trans hbc hSw))); have hn := dirs_cell dxOf hd (row_later (heap_alloc_new wO _) hSw (new_lt _ _)); go_simp; try with_reducible rfl)
  try simp only [Act.put, List.getElem_toArray, List.getElem_cons_succ, List.getElem_cons_zero, List.setIfInBounds_toArray, List.set_cons_zero, List.set_cons_succ]
  refine Script.done (by kernel_rfl) ?_
  intro wD hD hG
  have B1 := Lib.hid (B0.out.later (After.trans (After.drew (After.refl _)) (After.trans hO (After.trans hbc hD))))
  clear hD hbc hO B0
  go_wp2_with fail
  refine wp_region_script (by kernel_rfl) (by kernel_rfl) ?_
  refine Script.load (i := 0) (v := ?_) rfl (by kernel_rfl) (by kernel_rfl) (fun _ _ _ h => h) (by kernel_rfl) ?_ ?_
  rotate_left
  · (intro wS hSw; obtain ⟨c0, c1, c2, -, -⟩ := B1.out.later (After.trans (After.drew (After.refl _)) hSw); go_simp; try with_reducible rfl)
  try simp only [Act.put, List.getElem_toArray, List.getElem_cons_succ, List.getElem_cons_zero, List.setIfInBounds_toArray, List.set_cons_zero, List.set_cons_succ]
  refine Script.load (i := 1) (v := ?_) rfl (by kernel_rfl) (by kernel_rfl) (fun _ _ _ h => h) (by kernel_rfl) ?_ ?_
  rotate_left
  · (intro wS hSw; obtain ⟨c0, c1, c2, -, -⟩ := B1.out.later (After.trans (After.drew (After.refl _)) hSw); go_simp; try with_reducible rfl)
  try simp only [Act.put, List.getElem_toArray, List.getElem_cons_succ, List.getElem_cons_zero, List.setIfInBounds_toArray, List.set_cons_zero, List.set_cons_succ]
  refine Script.load (i := 2) (v := ?_) rfl (by kernel_rfl) (by kernel_rfl) (fun _ _ _ h => h) (by kernel_rfl) ?_ ?_
  rotate_left
  · (intro wS hSw; obtain ⟨c0, c1, c2, -, -⟩ := B1.out.later (After.trans (After.drew (After.refl _)) hSw); go_simp; try with_reducible rfl)
  try simp only [Act.put, List.getElem_toArray, List.getElem_cons_succ, List.getElem_cons_zero, List.setIfInBounds_toArray, List.set_cons_zero, List.set_cons_succ]
  refine Script.load (i := 3) (v := ?_) rfl (by kernel_rfl) (by kernel_rfl) (fun _ _ _ h => h) (by kernel_rfl) ?_ ?_
  rotate_left
  · (intro wS hSw; obtain ⟨c0, c1, c2, -, -⟩ := B1.out.later (After.trans (After.drew (After.refl _)) hSw); go_simp; try with_reducible rfl)
  try simp only [Act.put, List.getElem_toArray, List.getElem_cons_succ, List.getElem_cons_zero, List.setIfInBounds_toArray, List.set_cons_zero, List.set_cons_succ]
  refine Script.load (i := 5) (v := ?_) rfl (by kernel_rfl) (by kernel_rfl) (fun _ _ _ h => h) (by kernel_rfl) ?_ ?_
  rotate_left
  · (intro wS hSw; obtain ⟨c0, c1, c2, -, -⟩ := B1.out.later (After.trans (After.drew (After.refl _)) hSw); go_simp; try with_reducible rfl)
  try simp only [Act.put, List.getElem_toArray, List.getElem_cons_succ, List.getElem_cons_zero, List.setIfInBounds_toArray, List.set_cons_zero, List.set_cons_succ]
  refine Script.one (i := 4) rfl (by kernel_rfl) (by kernel_rfl) ?_
  intro wO hO K hK; have hSw := hO; obtain ⟨c0, c1, c2, -, -⟩ := B1.out.later (After.trans (After.drew (After.refl _)) hSw); go_simp
  clear hSw
  have hbc : After wO (wO.alloc (.cells #[.int .i64 0, .int .i64 1, .int .i64 0, .int .i64 (-1)] 3)) := (Below.refl _ _).alloc (Nat.le_refl _) _
  refine hK.out _ _ hbc ?_
  clear hK K
  try simp only [Act.put, List.getElem_toArray, List.getElem_cons_succ, List.getElem_cons_zero, List.setIfInBounds_toArray, List.set_cons_zero, List.set_cons_succ]
  clear c0 c1 c2
  refine Script.load (i := 6) (v := ?_) rfl (by kernel_rfl) (by kernel_rfl) (fun _ _ _ h => h) (by kernel_rfl) ?_ ?_
  rotate_left
  · (intro wS hSw; obtain ⟨c0, c1, c2, -, -⟩ := B1.out.later (After.trans (After.drew (After.refl _)) (After.trans hO (After.trans hbc hSw))); have hn := dirs_cell dyOf hd (row_later (heap_alloc_new wO _) hSw (new_lt _ _)); go_simp; try with_reducible rfl)
  try simp only [Act.put, List.getElem_toArray, List.getElem_cons_succ, List.getElem_cons_zero, List.setIfInBounds_toArray, List.set_cons_zero, List.set_cons_succ]
  refine Script.load (i := 7) (v := ?_) rfl (by kernel_rfl) (by kernel_rfl) (fun _ _ _ h => h) (by kernel_rfl) ?_ ?_
  rotate_left
  · (intro wS hSw; obtain ⟨c0, c1, c2, -, -⟩ := B1.out.later (After.trans (After.drew (After.refl _)) (After.trans hO (After.trans hbc hSw))); have hn := dirs_cell dyOf hd (row_later (heap_alloc_new wO _) hSw (new_lt _ _)); go_simp; try with_reducible rfl)
  try simp only [Act.put, List.getElem_toArray, List.getElem_cons_succ, List.getElem_cons_zero, List.setIfInBounds_toArray, List.set_cons_zero, List.set_cons_succ]
  refine Script.load (i := 8) (v := ?_) rfl (by kernel_rfl) (by kernel_rfl) (fun _ _ _ h => h) (by kernel_rfl) ?_ ?_
  rotate_left
  · (intro wS hSw; obtain ⟨c0, c1, c2, -, -⟩ := B1.out.later (After.trans (After.drew (After.refl _)) (After.trans hO (After.trans hbc hSw))); have hn := dirs_cell dyOf hd (row_later (heap_alloc_new wO _) hSw (new_lt _ _)); go_simp; try with_reducible rfl)
  try simp only [Act.put, List.getElem_toArray, List.getElem_cons_succ, List.getElem_cons_zero, List.setIfInBounds_toArray, List.set_cons_zero, List.set_cons_succ]
  refine Script.load (i := 9) (v := ?_) rfl (by kernel_rfl) (by kernel_rfl) (fun _ _ _ h => h) (by kernel_rfl) ?_ ?_
  rotate_left
  · (intro wS hSw; obtain ⟨c0, c1, c2, -, -⟩ := B1.out.later (After.trans (After.drew (After.refl _)) (After.trans hO (After.trans hbc hSw))); have hn := dirs_cell dyOf hd (row_later (heap_alloc_new wO _) hSw (new_lt _ _)); go_simp; try with_reducible rfl)
  try simp only [Act.put, List.getElem_toArray, List.getElem_cons_succ, List.getElem_cons_zero, List.setIfInBounds_toArray, List.set_cons_zero, List.set_cons_succ]
  refine Script.done (by kernel_rfl) ?_
  intro wD hD hG
  have B2 := Lib.hid (B1.out.later (After.trans (After.drew (After.refl _)) (After.trans hO (After.trans hbc hD))))
  clear hD hbc hO B1 e1 e2 e3 e4 hx hy
  obtain ⟨c0, c1, c2, hlt, hbw⟩ := B2.out
  rcases hc.out with ⟨i1, hr⟩ | ⟨i1, i2, hr⟩ | ⟨i1, i2, hm, hj, m0, m7, hj49, hr⟩
  · have HR := Lib.hid hr
    clear hr hc
    go_wp2_with fail
    refine (specIn _ _ _ _).mono ?_
    rintro e w3 ⟨rfl, rfl⟩
    rw [i1]
    go_wp2_with fail
    go_ret
    exact ⟨ret_int HR.out.symm, hbw⟩
  · have HR := Lib.hid hr
    clear hr hc
    go_wp2_with fail
    refine (specIn _ _ _ _).mono ?_
    rintro e w3 ⟨rfl, rfl⟩
    rw [i1]
    go_wp2_with fail
    refine (specIn _ _ _ _).mono ?_
    rintro e w3 ⟨rfl, rfl⟩
    rw [i2]
    go_wp2_with fail
    go_ret
    exact ⟨ret_int HR.out.symm, hbw⟩
  · have HR := Lib.hid hr
    have hand := hand1
    have hb0 := bit_int0 z j
    clear hr hc
    cases hbit : bit z j
    · rw [hbit] at hb0 HR
      go_wp2_with fail
      refine (specIn _ _ _ _).mono ?_
      rintro e w3 ⟨rfl, rfl⟩
      rw [i1]
      go_wp2_with fail
      refine (specIn _ _ _ _).mono ?_
      rintro e w3 ⟨rfl, rfl⟩
      rw [i2]
      go_wp2_with fail
      go_ret
      exact ⟨ret_int HR.out.symm, hbw⟩
    · rw [hbit] at hb0 HR
      go_wp2_with fail
      refine (specIn _ _ _ _).mono ?_
      rintro e w3 ⟨rfl, rfl⟩
      rw [i1]
      go_wp2_with fail
      refine (specIn _ _ _ _).mono ?_
      rintro e w3 ⟨rfl, rfl⟩
      rw [i2]
      go_wp2_with fail
      go_ret
      exact ⟨ret_int HR.out.symm, hbw⟩
/-- The hole beside, or -1. -/
def stepI (o : Option Nat) : Int := match o with
  | some j => (j : Int)
  | none => -1
theorem specStep {a b N z k d : Nat} (h : Ok (a : Int) (b : Int) N z) (hk : k < a * b) (hd : d < 4) (w : World) :
    Calls Try.prog 75 #[.agg #[.int .i64 a, .int .i64 b, .int .i64 z], .int .i64 k, .int .i64 d] w fun e w' => e = .returned (.int .i64 (stepI (stepN a b z k d))) ∧ Below w.heap.size w w' := by
  obtain ⟨hN, ha, ha7, hb, hb7, hab⟩ := h.nat
  obtain ⟨p1, p2, p3⟩ := place_of ha hk
  obtain ⟨d1, d2, d3, d4⟩ := dx_bd d
  have hx : ((k : Int)).tmod a = ((k % a : Nat) : Int) := by rw [Int.tmod_eq_emod_of_nonneg (by omega)]; simp
  have hy : ((k : Int)).tdiv a = ((k / a : Nat) : Int) := by rw [Int.tdiv_eq_ediv_of_nonneg (by omega)]; simp
  have hc := nbr_cases ha hk hd
  generalize k % a = x at *
  generalize k / a = y at *
  rcases hc with ⟨h1, h2⟩ | ⟨j, m, h1, h2, x0, x1, y0, y1, hm, hj⟩
  · rw [stepN_out h1]
    refine specStepG (j := 0) (m := 0) w hd (by omega) (by omega) (by omega) (by omega) hx hy (IntWalk.i64_in _ (by omega)) (IntWalk.i64_in _ (by omega)) (IntWalk.i64_in _ (by omega)) (IntWalk.i64_in _ (by omega)) (by omega) (by omega) (by omega) (by omega) ?_
    unfold Hid
    cases i1 : inB ((x : Int) + dxOf d) 0 ((a : Int) - 1)
    · exact .inl ⟨rfl, rfl⟩
    · refine .inr (.inl ⟨rfl, ?_, rfl⟩)
      simp only [inB, Bool.and_eq_true, decide_eq_true_eq] at i1
      simp only [inB, Bool.and_eq_false_iff, decide_eq_false_iff_not]
      omega
  · rw [stepN_nbr h1]
    refine specStepG (j := j) (m := m) w hd (by omega) (by omega) (by omega) (by omega) hx hy (IntWalk.i64_in _ (by omega)) (IntWalk.i64_in _ (by omega)) (IntWalk.i64_in _ (by omega)) (IntWalk.i64_in _ (by omega)) (by omega) (by omega) (by omega) (by omega) ?_
    unfold Hid
    refine .inr (.inr ⟨?_, ?_, hm, hj, by omega, by omega, by omega, ?_⟩)
    · simp only [inB, Bool.and_eq_true, decide_eq_true_eq]; omega
    · simp only [inB, Bool.and_eq_true, decide_eq_true_eq]; omega
    · cases bit z j <;> rfl
end Go.Proofs.Ytgkmapemnlgldaa

namespace Go.Proofs.Ytgkmapemnlgldaa
open Go.RowKit
set_option linter.unusedVariables false
set_option linter.unusedSimpArgs false
/-- It returns a list of lines in new memory. -/
def OwnLines (xs : List Ln) (w : World) (e : Ending) (w' : World) : Prop :=
  ∃ v, e = .returned v ∧ w'.ownsRow w.heap.size 76 3 v xs.length (lv xs) ∧ Below w.heap.size w w'
/-- An owned list of lines, its length a letter. -/
def Held (w : World) (base : Nat) (v : Value) (n : Nat) (xs : List Ln) : Prop := xs.length = n ∧ w.ownsRow base 76 3 v n (lv xs)
theorem Held.below {w w' : World} {base n : Nat} {v : Value} {xs : List Ln} (h : Held w base v n xs) (hb : Below w.heap.size w w') : Held w' base v n xs := ⟨h.1, own_below h.2 hb⟩
set_option maxHeartbeats 2000000 in
set_option maxRecDepth 100000 in
theorem implLines {a b N z : Nat} (h : Ok (a : Int) (b : Int) N z) (w : World) : Calls Try.prog 39 #[.agg #[.int .i64 a, .int .i64 b, .int .i64 z]] w (OwnLines (linesOf a b z (bitsOf N z)) w) := by
  obtain ⟨hN, ha, ha7, hb, hb7, hab⟩ := h.nat
  have C1 := Lib.hid (implHoles h)
  have C2 := Lib.hid (fun k d w (hk : k < a * b) (hd : d < 4) => implLineFrom h hk hd w)
  obtain ⟨ks, hks⟩ : ∃ ks, bitsOf N z = ks := ⟨_, rfl⟩
  have hlt : Hid (∀ k ∈ ks, k < a * b) := fun k hk => by rw [hN]; rw [← hks] at hk; exact (mem_bitsOf.1 hk).1
  have hle : Hid (ks.length ≤ 49) := by unfold Hid; rw [← hks]; exact Nat.le_trans (bitsOf_le N z) h.n49
  rw [hks] at C1 ⊢
  clear hks h hN
  obtain ⟨i0, hi, hz0, hz1, hz2⟩ : ∃ i, Try.prog.info? 76 = some i ∧ i.zero = some (.agg #[.int .i64 0, .int .i64 0, .int .i64 0]) ∧ i.size = 3 ∧ i.bytes = 24 := ⟨_, by rfl, by rfl, by rfl, by rfl⟩
  go_enter Try.func39, Try.ntmps39
  go_wp2_with fail
  have B00 := Lib.hid (box_new (a : Int) (b : Int) (z : Int) w)
  have hS : (w.alloc (.cells #[.int .i64 (a : Int), .int .i64 (b : Int), .int .i64 (z : Int)] 25)).heap.size = w.heap.size + 1 := by simp
  generalize w.alloc (.cells #[.int .i64 (a : Int), .int .i64 (b : Int), .int .i64 (z : Int)] 25) = W1 at *
  have HL0 : Hid (Held (W1.alloc (.cells #[] 76)) (w.heap.size + 1) (.slice (some ⟨w.heap.size + 1, 0, none⟩) 0 0) 0 []) := by
    refine ⟨rfl, ?_⟩
    rw [← hS]
    exact World.ownsRow_made W1 #[] 0 (Nat.le_refl _) (by unfold maxLen; omega) rfl
  have B0 := Lib.hid (B00.out.later ((Below.refl _ _).alloc (Nat.le_refl _) (.cells #[] 76)))
  have hS2 : w.heap.size + 1 ≤ (W1.alloc (.cells #[] 76)).heap.size := by simp; omega
  generalize W1.alloc (.cells #[] 76) = W2 at *
  clear B00 hS
  refine (C1.out _).mono ?_
  rintro e w3 ⟨hv, rfl, hh, hb3⟩
  have B3 := Lib.hid (B0.out.later hb3)
  have HL3 := Lib.hid (HL0.out.below hb3)
  have hh0 := Lib.hid (own_base hh hS2)
  obtain ⟨n, hn⟩ : ∃ n, ks.length = n := ⟨_, rfl⟩
  rw [hn] at hle hh0
  have HN := Lib.hid hn
  have hle' := hle.out
  obtain ⟨ga, gc, rfl⟩ : ∃ a c, hv = .slice a n c := by rcases Go.Joins.ownsRow_forms hh0.out with ⟨rfl, h⟩ | ⟨g, cap, rfl⟩ <;> first | exact ⟨_, _, rfl⟩ | exact ⟨none, 0, by rw [h]⟩
  clear hh hn B0 HL0 hb3 hS2
  obtain ⟨c0, c1, c2, hlt3, hb1⟩ := B3.out
  go_wp2_with fail
  go_loopw [3, 13] (fun s i wr => ∃ (k m : Nat) (v : Value) (xs : List Ln), k ≤ n ∧ m ≤ 4 * k ∧ i = .int .i64 k ∧ v = s ∧ Hid (xs = linesOf a b z (ks.take k)) ∧ Hid (Held wr (w.heap.size + 1) v m xs) ∧ Hid (wr.ownsRow (w.heap.size + 1) 3 1 (.slice ga n gc) n (Ints ks)) ∧ Hid (Box w.heap.size a b z w wr)) (fun _ i _ => n - (intOf i).toNat)
  case atStart => exact ⟨0, 0, _, [], by omega, by omega, rfl, rfl, rfl, HL3, hh0, B3⟩
  case round =>
    obtain ⟨k, m, v, xs, hk, hm, rfl, rfl, hxs, HL, HH, B4⟩ := hrel
    obtain ⟨c0, c1, c2, hlt4, hb4⟩ := B4.out
    by_cases hkn : k < n
    · obtain ⟨q, hq⟩ : ∃ q, ks[k]? = some q := ⟨_, List.getElem?_eq_getElem (by rw [HN.out]; exact hkn)⟩
      have hqN := hlt.out q (List.mem_of_getElem? hq)
      have k0 : (0 : Int) ≤ (k : Int) := by omega
      have k1 : (k : Int) < (n : Int) := by omega
      obtain ⟨g, rfl⟩ : ∃ g, ga = some ⟨g, 0, none⟩ := by
        rcases Go.Joins.ownsRow_forms HH.out with ⟨h, h0⟩ | ⟨g, cap, h⟩
        · omega
        · injection h with h1 h2 h3; exact ⟨g, h1⟩
      have hcell : wr.cell? ⟨g, k, none⟩ = some (.int .i64 (q : Int)) := own_cell HH.out k hkn _ (by simp [Ints, hq])
      have HQ := Lib.hid (linesOf_take (w := a) (h := b) (z := z) hq)
      clear hq
      go_wp2_with fail
      clear hcell c0 c1 c2 hlt4 hb4
      go_loopw [3, 17] (fun s d wr => ∃ (d' m' : Nat) (v : Value) (xs' : List Ln), d' ≤ 4 ∧ m' ≤ 4 * k + d' ∧ d = .int .i64 d' ∧ v = s ∧ Hid (xs' = xs ++ lineRow a b z q d') ∧ Hid (Held wr (w.heap.size + 1) v m' xs') ∧ Hid (wr.ownsRow (w.heap.size + 1) 3 1 (.slice (some ⟨g, 0, none⟩) n gc) n (Ints ks)) ∧ Hid (Box w.heap.size a b z w wr)) (fun _ d _ => 4 - (intOf d).toNat)
      case atStart => exact ⟨0, m, _, xs, by omega, by omega, rfl, rfl, by unfold Hid; rw [lineRow_zero, List.append_nil], HL, HH, B4⟩
      case round =>
        clear HL HH B4 hm
        obtain ⟨d, m', v', xs', hd, hm, rfl, rfl, hxs', HL, HH, B4⟩ := hrel
        obtain ⟨c0, c1, c2, hlt4, hb4⟩ := B4.out
        by_cases hd4 : d < 4
        · go_wp2_with fail
          refine (C2.out q d _ hqN hd4).mono ?_
          rintro e w5 ⟨rfl, hb5⟩
          have HL5 := Lib.hid (HL.out.below hb5)
          have HH5 := Lib.hid (own_below HH.out hb5)
          have B5 := Lib.hid (B4.out.later hb5)
          clear HL HH B4 c0 c1 c2 hlt4 hb4 hb5
          obtain ⟨c0, c1, c2, hlt4, hb4⟩ := B5.out
          cases hln : lineN a b z q d with
          | none =>
            have HR := Lib.hid (lineRow_no hln)
            clear hln
            unfold lineV
            go_wp2_with fail
            have hbl : Below w5.heap.size w5 (w5.alloc (.cells #[.int .i64 0, .int .i64 0, .int .i64 0] 76)) := (Below.refl _ _).alloc (Nat.le_refl _) _
            have HL6 := Lib.hid (HL5.out.below hbl)
            have HH6 := Lib.hid (own_below HH5.out hbl)
            have B6 := Lib.hid (B5.out.later hbl)
            clear hbl HL5 HH5 B5 c0 c1 c2 hlt4 hb4
            go_roundw
            case rel => exact ⟨d + 1, m', _, xs', by omega, by omega, by go_num, rfl, by unfold Hid; rw [HR.out]; exact hxs'.out, HL6, HH6, B6⟩
            case measure => simp [intOf]; omega
          | some l =>
            have HR := Lib.hid (lineRow_yes hln)
            clear hln
            obtain ⟨f, o, t⟩ := l
            unfold lineV
            have hln : Hid (m' ≤ 1000000000) := by unfold Hid; omega
            have hbl : Below w5.heap.size w5 (w5.alloc (.cells #[.int .i64 f, .int .i64 o, .int .i64 t] 76)) := (Below.refl _ _).alloc (Nat.le_refl _) _
            have HL6 := Lib.hid (HL5.out.below hbl)
            have HH6 := Lib.hid (own_below HH5.out hbl)
            have B6 := Lib.hid (B5.out.later hbl)
            have hsz : Hid ((w5.alloc (.cells #[.int .i64 f, .int .i64 o, .int .i64 t] 76)).heap.size = w5.heap.size + 1) := by unfold Hid; simp
            have hbz : Hid (w.heap.size + 1 ≤ (w5.alloc (.cells #[.int .i64 f, .int .i64 o, .int .i64 t] 76)).heap.size) := B6.out.2.2.2.1
            clear hbl HL5 HH5 B5 c0 c1 c2 hlt4 hb4
            go_wp2_with (at_builtin; refine wpList_append_line rfl (.tmp 28) (.tmp 30) 51 rfl (w.heap.size + 1) 76 i0 (.agg #[.int .i64 0, .int .i64 0, .int .i64 0]) Try.underlying51 hi hz0 hz1 hz2 rfl _ _ xs' rfl HL6.out.2 _ hsz.out rfl hln.out hbz.out ?_; intro g' cap' w7 hown' hgrow hb2 _)
            have hl7 : xs'.length = m' := HL6.out.1
            have HL7 : Hid (Held w7 (w.heap.size + 1) (.slice (some ⟨g', 0, none⟩) (m' + 1) cap') (m' + 1) (xs' ++ [((f : Int), (o : Int), (t : Int))])) := ⟨by rw [List.length_append, hl7]; rfl, hown'⟩
            have HH7 : Hid (w7.ownsRow (w.heap.size + 1) 3 1 (.slice (some ⟨g, 0, none⟩) n gc) n (Ints ks)) := (own_below HH6.out ((Below.refl _ _).alloc (Nat.le_refl _) _)).kept hgrow (own_ne (own_below HH6.out ((Below.refl _ _).alloc (Nat.le_refl _) (.cells #[] 76))) (own_below HL6.out.2 ((Below.refl _ _).alloc (Nat.le_refl _) (.cells #[] 76))) (by decide))
            have B7 := Lib.hid (B6.out.kept hb2 (Nat.lt_succ_self _) (Nat.le_succ _))
            clear hown' hgrow hb2 hl7 hbz hsz HL6 HH6 B6 hln
            go_wp2_with fail
            go_roundw
            case rel => exact ⟨d + 1, m' + 1, _, _, by omega, by omega, by go_num, rfl, by unfold Hid; rw [HR.out, hxs'.out, List.append_assoc], HL7, HH7, B7⟩
            case measure => simp [intOf]; omega
        · obtain rfl : d = 4 := by omega
          have hx4 : Hid (xs' = linesOf a b z (ks.take (k + 1))) := by unfold Hid; rw [hxs'.out, hxs.out, HQ.out]
          clear c0 c1 c2 hlt4 hb4
          go_wp2_with fail
          go_roundw
          case rel => exact ⟨k + 1, m', _, xs', by omega, by omega, by go_num, rfl, hx4, HL, HH, B4⟩
          case measure => simp [intOf]; omega
    · obtain rfl : k = n := by omega
      have hp : Hid (OwnLines (linesOf a b z ks) w (.returned v) wr) := by
        refine ⟨_, rfl, ?_, hb4⟩
        have e : linesOf a b z ks = xs := by rw [hxs.out, List.take_of_length_le (by rw [HN.out]; exact Nat.le_refl _)]
        rw [e, HL.out.1]
        exact own_base HL.out.2 (Nat.le_succ _)
      clear HL HH B4 c0 c1 c2 hb4 hlt4
      go_wp2_with fail
      go_ret
      exact hp.out
theorem lineN_no1 {a b z k d : Nat} (h : stepN a b z k d = none) : lineN a b z k d = none := by simp [lineN, h]
theorem lineN_no2 {a b z k d o : Nat} (h : stepN a b z k d = some o) (h2 : stepN a b z o d = none) : lineN a b z k d = none := by simp [lineN, h, h2]
theorem lineN_yes {a b z k d o t : Nat} (h : stepN a b z k d = some o) (h2 : stepN a b z o d = some t) : lineN a b z k d = some ((k : Int), (o : Int), (t : Int)) := by simp [lineN, h, h2]
set_option maxHeartbeats 2000000 in
set_option maxRecDepth 100000 in
theorem specLines {a b N z : Nat} (h : Ok (a : Int) (b : Int) N z) (w : World) : Calls Try.prog 59 #[.agg #[.int .i64 a, .int .i64 b, .int .i64 z]] w (OwnLines (linesOf a b z (bitsOf N z)) w) := by
  obtain ⟨hN, ha, ha7, hb, hb7, hab⟩ := h.nat
  have C1 := Lib.hid (specHoles h)
  have C2 := Lib.hid (fun k d w (hk : k < a * b) (hd : d < 4) => specStep h hk hd w)
  have hst := Lib.hid (fun k d o (hk : k < a * b) (hh : stepN a b z k d = some o) => stepN_at ha hk hh)
  obtain ⟨ks, hks⟩ : ∃ ks, bitsOf N z = ks := ⟨_, rfl⟩
  have hlt : Hid (∀ k ∈ ks, k < a * b) := fun k hk => by rw [hN]; rw [← hks] at hk; exact (mem_bitsOf.1 hk).1
  have hle : Hid (ks.length ≤ 49) := by unfold Hid; rw [← hks]; exact Nat.le_trans (bitsOf_le N z) h.n49
  rw [hks] at C1 ⊢
  clear hks h hN
  obtain ⟨i0, hi, hz0, hz1, hz2⟩ : ∃ i, Try.prog.info? 76 = some i ∧ i.zero = some (.agg #[.int .i64 0, .int .i64 0, .int .i64 0]) ∧ i.size = 3 ∧ i.bytes = 24 := ⟨_, by rfl, by rfl, by rfl, by rfl⟩
  go_enter Try.func59, Try.ntmps59
  go_wp2_with fail
  have B00 := Lib.hid (box_new (a : Int) (b : Int) (z : Int) w)
  have hS : (w.alloc (.cells #[.int .i64 (a : Int), .int .i64 (b : Int), .int .i64 (z : Int)] 25)).heap.size = w.heap.size + 1 := by simp
  generalize w.alloc (.cells #[.int .i64 (a : Int), .int .i64 (b : Int), .int .i64 (z : Int)] 25) = W1 at *
  have HL0 : Hid (Held (W1.alloc (.cells #[] 76)) (w.heap.size + 1) (.slice (some ⟨w.heap.size + 1, 0, none⟩) 0 0) 0 []) := by
    refine ⟨rfl, ?_⟩
    rw [← hS]
    exact World.ownsRow_made W1 #[] 0 (Nat.le_refl _) (by unfold maxLen; omega) rfl
  have B0 := Lib.hid (B00.out.later ((Below.refl _ _).alloc (Nat.le_refl _) (.cells #[] 76)))
  have hS2 : w.heap.size + 1 ≤ (W1.alloc (.cells #[] 76)).heap.size := by simp; omega
  generalize W1.alloc (.cells #[] 76) = W2 at *
  clear B00 hS
  refine (C1.out _).mono ?_
  rintro e w3 ⟨hv, rfl, hh, hb3⟩
  have B3 := Lib.hid (B0.out.later hb3)
  have HL3 := Lib.hid (HL0.out.below hb3)
  have hh0 := Lib.hid (own_base hh hS2)
  obtain ⟨n, hn⟩ : ∃ n, ks.length = n := ⟨_, rfl⟩
  rw [hn] at hle hh0
  have HN := Lib.hid hn
  have hle' := hle.out
  obtain ⟨ga, gc, rfl⟩ : ∃ a c, hv = .slice a n c := by rcases Go.Joins.ownsRow_forms hh0.out with ⟨rfl, h⟩ | ⟨g, cap, rfl⟩ <;> first | exact ⟨_, _, rfl⟩ | exact ⟨none, 0, by rw [h]⟩
  clear hh hn B0 HL0 hb3 hS2
  go_wp2_with fail
  go_loopw [3, 5] (fun s i wr => ∃ (k m : Nat) (v : Value) (xs : List Ln), k ≤ n ∧ m ≤ 4 * k ∧ i = .int .i64 k ∧ v = s ∧ Hid (xs = linesOf a b z (ks.take k)) ∧ Hid (Held wr (w.heap.size + 1) v m xs) ∧ Hid (wr.ownsRow (w.heap.size + 1) 3 1 (.slice ga n gc) n (Ints ks)) ∧ Hid (Box w.heap.size a b z w wr)) (fun _ i _ => n - (intOf i).toNat)
  case atStart => exact ⟨0, 0, _, [], by omega, by omega, rfl, rfl, rfl, HL3, hh0, B3⟩
  case round =>
    obtain ⟨k, m, v, xs, hk, hm, rfl, rfl, hxs, HL, HH, B4⟩ := hrel
    by_cases hkn : k < n
    · obtain ⟨q, hq⟩ : ∃ q, ks[k]? = some q := ⟨_, List.getElem?_eq_getElem (by rw [HN.out]; exact hkn)⟩
      have hqN := hlt.out q (List.mem_of_getElem? hq)
      have k0 : (0 : Int) ≤ (k : Int) := by omega
      have k1 : (k : Int) < (n : Int) := by omega
      obtain ⟨g, rfl⟩ : ∃ g, ga = some ⟨g, 0, none⟩ := by
        rcases Go.Joins.ownsRow_forms HH.out with ⟨h, h0⟩ | ⟨g, cap, h⟩
        · omega
        · injection h with h1 h2 h3; exact ⟨g, h1⟩
      have HCE : Hid (∀ w' : World, w'.ownsRow (w.heap.size + 1) 3 1 (.slice (some ⟨g, 0, none⟩) n gc) n (Ints ks) → w'.cell? ⟨g, k, none⟩ = some (.int .i64 (q : Int))) := fun w' ho => own_cell ho k hkn _ (by simp [Ints, hq])
      have HQ := Lib.hid (linesOf_take (w := a) (h := b) (z := z) hq)
      clear hq
      go_wp2_with fail
      go_loopw [3, 6] (fun s d wr => ∃ (d' m' : Nat) (v : Value) (xs' : List Ln), d' ≤ 4 ∧ m' ≤ 4 * k + d' ∧ d = .int .i64 d' ∧ v = s ∧ Hid (xs' = xs ++ lineRow a b z q d') ∧ Hid (Held wr (w.heap.size + 1) v m' xs') ∧ Hid (wr.ownsRow (w.heap.size + 1) 3 1 (.slice (some ⟨g, 0, none⟩) n gc) n (Ints ks)) ∧ Hid (Box w.heap.size a b z w wr)) (fun _ d _ => 4 - (intOf d).toNat)
      case atStart => exact ⟨0, m, _, xs, by omega, by omega, rfl, rfl, by unfold Hid; rw [lineRow_zero, List.append_nil], HL, HH, B4⟩
      case round =>
        clear HL HH B4 hm
        obtain ⟨d, m', v', xs', hd, hm, rfl, rfl, hxs', HL, HH, B4⟩ := hrel
        by_cases hd4 : d < 4
        · have hdb : decide ((d : Int) < 4) = true := by simp only [decide_eq_true_eq]; omega
          go_wp2_with fail
          refine wp_region_script (by kernel_rfl) (by kernel_rfl) ?_
          refine Script.load (i := 0) (v := ?_) rfl (by kernel_rfl) (by kernel_rfl) (fun _ _ _ h => h) (by kernel_rfl) ?_ ?_
          rotate_left
          · (intro wS hSw; obtain ⟨c0, c1, c2, -, -⟩ := B4.out.later (After.trans (After.drew (After.refl _)) hSw); have hce := HCE.out _ (own_below HH.out (After.trans (After.drew (After.refl _)) hSw)); go_simp; try with_reducible rfl)
          try simp only [Act.put, List.getElem_toArray, List.getElem_cons_succ, List.getElem_cons_zero, List.setIfInBounds_toArray, List.set_cons_zero, List.set_cons_succ]
          refine Script.load (i := 1) (v := ?_) rfl (by kernel_rfl) (by kernel_rfl) (fun _ _ _ h => h) (by kernel_rfl) ?_ ?_
          rotate_left
          · (intro wS hSw; obtain ⟨c0, c1, c2, -, -⟩ := B4.out.later (After.trans (After.drew (After.refl _)) hSw); have hce := HCE.out _ (own_below HH.out (After.trans (After.drew (After.refl _)) hSw)); go_simp; try with_reducible rfl)
          try simp only [Act.put, List.getElem_toArray, List.getElem_cons_succ, List.getElem_cons_zero, List.setIfInBounds_toArray, List.set_cons_zero, List.set_cons_succ]
          refine Script.load (i := 2) (v := ?_) rfl (by kernel_rfl) (by kernel_rfl) (fun _ _ _ h => h) (by kernel_rfl) ?_ ?_
          rotate_left
          · (intro wS hSw; obtain ⟨c0, c1, c2, -, -⟩ := B4.out.later (After.trans (After.drew (After.refl _)) hSw); have hce := HCE.out _ (own_below HH.out (After.trans (After.drew (After.refl _)) hSw)); go_simp; try with_reducible rfl)
          try simp only [Act.put, List.getElem_toArray, List.getElem_cons_succ, List.getElem_cons_zero, List.setIfInBounds_toArray, List.set_cons_zero, List.set_cons_succ]
          refine Script.load (i := 3) (v := ?_) rfl (by kernel_rfl) (by kernel_rfl) (fun _ _ _ h => h) (by kernel_rfl) ?_ ?_
          rotate_left
          · (intro wS hSw; obtain ⟨c0, c1, c2, -, -⟩ := B4.out.later (After.trans (After.drew (After.refl _)) hSw); have hce := HCE.out _ (own_below HH.out (After.trans (After.drew (After.refl _)) hSw)); go_simp; try with_reducible rfl)
          try simp only [Act.put, List.getElem_toArray, List.getElem_cons_succ, List.getElem_cons_zero, List.setIfInBounds_toArray, List.set_cons_zero, List.set_cons_succ]
          refine Script.load (i := 4) (v := ?_) rfl (by kernel_rfl) (by kernel_rfl) (fun _ _ _ h => h) (by kernel_rfl) ?_ ?_
          rotate_left
          · (intro wS hSw; obtain ⟨c0, c1, c2, -, -⟩ := B4.out.later (After.trans (After.drew (After.refl _)) hSw); have hce := HCE.out _ (own_below HH.out (After.trans (After.drew (After.refl _)) hSw)); go_simp; try with_reducible rfl)
          try simp only [Act.put, List.getElem_toArray, List.getElem_cons_succ, List.getElem_cons_zero, List.setIfInBounds_toArray, List.set_cons_zero, List.set_cons_succ]
          refine Script.load (i := 5) (v := ?_) rfl (by kernel_rfl) (by kernel_rfl) (fun _ _ _ h => h) (by kernel_rfl) ?_ ?_
          rotate_left
          · (intro wS hSw; obtain ⟨c0, c1, c2, -, -⟩ := B4.out.later (After.trans (After.drew (After.refl _)) hSw); have hce := HCE.out _ (own_below HH.out (After.trans (After.drew (After.refl _)) hSw)); go_simp; try with_reducible rfl)
          try simp only [Act.put, List.getElem_toArray, List.getElem_cons_succ, List.getElem_cons_zero, List.setIfInBounds_toArray, List.set_cons_zero, List.set_cons_succ]
          refine Script.call (i := 6) (v := ?_) rfl (by kernel_rfl) (by kernel_rfl) (fun _ _ _ h => h) (by kernel_rfl) ?_ ?_
          rotate_left
          · (intro wS hSw K hK; obtain ⟨c0, c1, c2, -, -⟩ := B4.out.later (After.trans (After.drew (After.refl _)) hSw); have hce := HCE.out _ (own_below HH.out (After.trans (After.drew (After.refl _)) hSw)); go_simp; go_at_call 75; refine (C2.out q d _ hqN hd4).mono ?_; rintro e wc ⟨rfl, hbc⟩; exact hK.out _ hbc)
          try simp only [Act.put, List.getElem_toArray, List.getElem_cons_succ, List.getElem_cons_zero, List.setIfInBounds_toArray, List.set_cons_zero, List.set_cons_succ]
          refine Script.load (i := 7) (v := ?_) rfl (by kernel_rfl) (by kernel_rfl) (fun _ _ _ h => h) (by kernel_rfl) ?_ ?_
          rotate_left
          · (intro wS hSw; obtain ⟨c0, c1, c2, -, -⟩ := B4.out.later (After.trans (After.drew (After.refl _)) hSw); have hce := HCE.out _ (own_below HH.out (After.trans (After.drew (After.refl _)) hSw)); go_simp; try with_reducible rfl)
          try simp only [Act.put, List.getElem_toArray, List.getElem_cons_succ, List.getElem_cons_zero, List.setIfInBounds_toArray, List.set_cons_zero, List.set_cons_succ]
          refine Script.done (by kernel_rfl) ?_
          intro wD hD hG
          have hb5 := After.trans (After.drew (After.refl _)) hD
          have HL5 := Lib.hid (HL.out.below hb5)
          have HH5 := Lib.hid (own_below HH.out hb5)
          have B5 := Lib.hid (B4.out.later hb5)
          clear HL HH B4 hb5 hD
          cases h1 : stepN a b z q d with
          | none =>
            have HR := Lib.hid (lineRow_no (lineN_no1 h1))
            clear h1
            unfold stepI
            go_wp2_with fail
            go_roundw
            case rel => exact ⟨d + 1, m', _, xs', by omega, by omega, by go_num, rfl, by unfold Hid; rw [HR.out]; exact hxs'.out, HL5, HH5, B5⟩
            case measure => simp [intOf]; omega
          | some o =>
            have hoN := hst.out q d o hqN h1
            have ho0 : (0 : Int) ≤ (o : Int) := by omega
            unfold stepI
            obtain ⟨c0, c1, c2, hlt5, hb5⟩ := B5.out
            go_wp2_with fail
            refine (C2.out o d _ hoN hd4).mono ?_
            rintro e w6 ⟨rfl, hb6⟩
            have HL6 := Lib.hid (HL5.out.below hb6)
            have HH6 := Lib.hid (own_below HH5.out hb6)
            have B6 := Lib.hid (B5.out.later hb6)
            clear HL5 HH5 B5 c0 c1 c2 hlt5 hb5 hb6
            cases h2 : stepN a b z o d with
            | none =>
              have HR := Lib.hid (lineRow_no (lineN_no2 h1 h2))
              clear h1 h2
              unfold stepI
              go_wp2_with fail
              go_roundw
              case rel => exact ⟨d + 1, m', _, xs', by omega, by omega, by go_num, rfl, by unfold Hid; rw [HR.out]; exact hxs'.out, HL6, HH6, B6⟩
              case measure => simp [intOf]; omega
            | some t =>
              have HR := Lib.hid (lineRow_yes (lineN_yes h1 h2))
              have ht0 : (0 : Int) ≤ (t : Int) := by omega
              clear h1 h2
              unfold stepI
              have hce := HCE.out _ HH6.out
              have hln : Hid (m' ≤ 1000000000) := by unfold Hid; omega
              have hbz : Hid (w.heap.size + 1 ≤ w6.heap.size) := B6.out.2.2.2.1
              go_wp2_with (at_builtin; refine wpList_append_line rfl (.tmp 37) (.tmp 45) 51 rfl (w.heap.size + 1) 76 i0 (.agg #[.int .i64 0, .int .i64 0, .int .i64 0]) Try.underlying51 hi hz0 hz1 hz2 rfl _ _ xs' rfl HL6.out.2 _ rfl rfl hln.out hbz.out ?_; intro g' cap' w7 hown' hgrow hb2 _)
              have hl7 : xs'.length = m' := HL6.out.1
              have HL7 : Hid (Held w7 (w.heap.size + 1) (.slice (some ⟨g', 0, none⟩) (m' + 1) cap') (m' + 1) (xs' ++ [((q : Int), (o : Int), (t : Int))])) := ⟨by rw [List.length_append, hl7]; rfl, hown'⟩
              have HH7 : Hid (w7.ownsRow (w.heap.size + 1) 3 1 (.slice (some ⟨g, 0, none⟩) n gc) n (Ints ks)) := (own_below HH6.out ((Below.refl _ _).alloc (Nat.le_refl _) _)).kept hgrow (own_ne (own_below HH6.out ((Below.refl _ _).alloc (Nat.le_refl _) (.cells #[] 76))) (own_below HL6.out.2 ((Below.refl _ _).alloc (Nat.le_refl _) (.cells #[] 76))) (by decide))
              have B7 := Lib.hid (B6.out.kept hb2 (Nat.lt_succ_self _) (Nat.le_succ _))
              clear hown' hgrow hb2 hl7 hbz HL6 HH6 B6 hln hce
              go_wp2_with fail
              go_roundw
              case rel => exact ⟨d + 1, m' + 1, _, _, by omega, by omega, by go_num, rfl, by unfold Hid; rw [HR.out, hxs'.out, List.append_assoc], HL7, HH7, B7⟩
              case measure => simp [intOf]; omega
        · obtain rfl : d = 4 := by omega
          have hx4 : Hid (xs' = linesOf a b z (ks.take (k + 1))) := by unfold Hid; rw [hxs'.out, hxs.out, HQ.out]
          go_wp2_with fail
          go_roundw
          case rel => exact ⟨k + 1, m', _, xs', by omega, by omega, by go_num, rfl, hx4, HL, HH, B4⟩
          case measure => simp [intOf]; omega
    · obtain rfl : k = n := by omega
      have hp : Hid (OwnLines (linesOf a b z ks) w (.returned v) wr) := by
        refine ⟨_, rfl, ?_, B4.out.2.2.2.2⟩
        have e : linesOf a b z ks = xs := by rw [hxs.out, List.take_of_length_le (by rw [HN.out]; exact Nat.le_refl _)]
        rw [e, HL.out.1]
        exact own_base HL.out.2 (Nat.le_succ _)
      clear HL HH B4
      go_wp2_with fail
      go_ret
      exact hp.out
set_option maxRecDepth 100000 in
theorem implLines_no {W H Z : Int} (h : okB W H Z = false) (w : World) : Calls Try.prog 39 #[.agg #[.int .i64 W, .int .i64 H, .int .i64 Z]] w (OwnLines [] w) := by
  have C1 := Lib.hid (implHoles_no h)
  clear h
  go_enter Try.func39, Try.ntmps39
  go_wp2_with fail
  have B00 := Lib.hid (box_new W H Z w)
  have hS : (w.alloc (.cells #[.int .i64 W, .int .i64 H, .int .i64 Z] 25)).heap.size = w.heap.size + 1 := by simp
  generalize w.alloc (.cells #[.int .i64 W, .int .i64 H, .int .i64 Z] 25) = W1 at *
  have HL0 : Hid ((W1.alloc (.cells #[] 76)).ownsRow (w.heap.size + 1) 76 3 (.slice (some ⟨w.heap.size + 1, 0, none⟩) 0 0) 0 []) := by
    unfold Hid
    rw [← hS]
    exact World.ownsRow_made W1 #[] 0 (Nat.le_refl _) (by unfold maxLen; omega) rfl
  have B0 := Lib.hid (B00.out.later ((Below.refl _ _).alloc (Nat.le_refl _) (.cells #[] 76)))
  generalize W1.alloc (.cells #[] 76) = W2 at *
  clear B00 hS
  refine (C1.out _).mono ?_
  rintro e w3 ⟨hv, rfl, hh, hb3⟩
  have B3 := Lib.hid (B0.out.later hb3)
  have hp : Hid (OwnLines [] w (.returned (.slice (some ⟨w.heap.size + 1, 0, none⟩) 0 0)) w3) := ⟨_, rfl, own_base (own_below HL0.out hb3) (Nat.le_succ _), B3.out.2.2.2.2⟩
  obtain ⟨ga, gc, rfl⟩ : ∃ a c, hv = .slice a 0 c := by rcases Go.Joins.ownsRow_forms hh with ⟨rfl, h⟩ | ⟨g, cap, rfl⟩ <;> exact ⟨_, _, rfl⟩
  clear hh B0 HL0 hb3 B3
  go_wp2_with fail
  go_loop [3, 13] (fun s i => i = .int .i64 0 ∧ s = .slice (some ⟨w.heap.size + 1, 0, none⟩) 0 0) (fun _ _ => 0)
  case atStart => exact ⟨rfl, rfl⟩
  case round =>
    obtain ⟨rfl, rfl⟩ := hrel
    go_wp2_with fail
    go_ret
    exact hp.out
set_option maxRecDepth 100000 in
theorem specLines_no {W H Z : Int} (h : okB W H Z = false) (w : World) : Calls Try.prog 59 #[.agg #[.int .i64 W, .int .i64 H, .int .i64 Z]] w (OwnLines [] w) := by
  have C1 := Lib.hid (specHoles_no h)
  clear h
  go_enter Try.func59, Try.ntmps59
  go_wp2_with fail
  have B00 := Lib.hid (box_new W H Z w)
  have hS : (w.alloc (.cells #[.int .i64 W, .int .i64 H, .int .i64 Z] 25)).heap.size = w.heap.size + 1 := by simp
  generalize w.alloc (.cells #[.int .i64 W, .int .i64 H, .int .i64 Z] 25) = W1 at *
  have HL0 : Hid ((W1.alloc (.cells #[] 76)).ownsRow (w.heap.size + 1) 76 3 (.slice (some ⟨w.heap.size + 1, 0, none⟩) 0 0) 0 []) := by
    unfold Hid
    rw [← hS]
    exact World.ownsRow_made W1 #[] 0 (Nat.le_refl _) (by unfold maxLen; omega) rfl
  have B0 := Lib.hid (B00.out.later ((Below.refl _ _).alloc (Nat.le_refl _) (.cells #[] 76)))
  generalize W1.alloc (.cells #[] 76) = W2 at *
  clear B00 hS
  refine (C1.out _).mono ?_
  rintro e w3 ⟨hv, rfl, hh, hb3⟩
  have B3 := Lib.hid (B0.out.later hb3)
  have hp : Hid (OwnLines [] w (.returned (.slice (some ⟨w.heap.size + 1, 0, none⟩) 0 0)) w3) := ⟨_, rfl, own_base (own_below HL0.out hb3) (Nat.le_succ _), B3.out.2.2.2.2⟩
  obtain ⟨ga, gc, rfl⟩ : ∃ a c, hv = .slice a 0 c := by rcases Go.Joins.ownsRow_forms hh with ⟨rfl, h⟩ | ⟨g, cap, rfl⟩ <;> exact ⟨_, _, rfl⟩
  clear hh B0 HL0 hb3 B3
  go_wp2_with fail
  go_loop [3, 5] (fun s i => i = .int .i64 0 ∧ s = .slice (some ⟨w.heap.size + 1, 0, none⟩) 0 0) (fun _ _ => 0)
  case atStart => exact ⟨rfl, rfl⟩
  case round =>
    obtain ⟨rfl, rfl⟩ := hrel
    go_wp2_with fail
    go_ret
    exact hp.out
/-- The lines of a board; none of one that is not valid. -/
def lnsOf (W H Z : Int) : List Ln := if okB W H Z then linesOf W.toNat H.toNat Z.toNat (bitsOf 49 Z.toNat) else []
theorem lnsOf_ok {a b N z : Nat} (h : Ok (a : Int) (b : Int) N z) : lnsOf a b z = linesOf a b z (bitsOf N z) := by
  unfold lnsOf
  rw [h.ok, if_pos rfl, Int.toNat_natCast, Int.toNat_natCast, Int.toNat_natCast, h.list]
theorem lnsOf_no {W H Z : Int} (h : okB W H Z = false) : lnsOf W H Z = [] := by unfold lnsOf; rw [h]; rfl
theorem lnsOf_le (W H Z : Int) : (lnsOf W H Z).length ≤ 196 := by
  unfold lnsOf
  split
  · have h1 := linesOf_le W.toNat H.toNat Z.toNat (bitsOf 49 Z.toNat)
    have h2 := bitsOf_le 49 Z.toNat
    omega
  · simp
/-- A board that is valid, in natural numbers. -/
theorem okNat {W H Z : Int} (h : okB W H Z = true) : ∃ a b N z : Nat, W = a ∧ H = b ∧ Z = z ∧ Ok (a : Int) (b : Int) N z := by
  obtain ⟨N, z, rfl, ho⟩ := ok_of h
  have h1 := ho.w1; have h2 := ho.h1
  obtain ⟨a, rfl⟩ := Int.eq_ofNat_of_zero_le (show 0 ≤ W by omega)
  obtain ⟨b, rfl⟩ := Int.eq_ofNat_of_zero_le (show 0 ≤ H by omega)
  exact ⟨a, b, N, z, rfl, rfl, rfl, ho⟩
theorem implLinesA (W H Z : Int) (w : World) : Calls Try.prog 39 #[.agg #[.int .i64 W, .int .i64 H, .int .i64 Z]] w (OwnLines (lnsOf W H Z) w) := by
  cases h : okB W H Z
  · rw [lnsOf_no h]; exact implLines_no h w
  · obtain ⟨a, b, N, z, rfl, rfl, rfl, ho⟩ := okNat h
    rw [lnsOf_ok ho]; exact implLines ho w
theorem specLinesA (W H Z : Int) (w : World) : Calls Try.prog 59 #[.agg #[.int .i64 W, .int .i64 H, .int .i64 Z]] w (OwnLines (lnsOf W H Z) w) := by
  cases h : okB W H Z
  · rw [lnsOf_no h]; exact specLines_no h w
  · obtain ⟨a, b, N, z, rfl, rfl, rfl, ho⟩ := okNat h
    rw [lnsOf_ok ho]; exact specLines ho w
end Go.Proofs.Ytgkmapemnlgldaa

namespace Go.Proofs.Ytgkmapemnlgldaa
open Go.RowKit
set_option linter.unusedVariables false
set_option linter.unusedSimpArgs false
set_option maxHeartbeats 1000000 in
set_option maxRecDepth 100000 in
theorem specBetween (W H Z f t : Int) (w : World) : Calls Try.prog 103 #[.agg #[.int .i64 W, .int .i64 H, .int .i64 Z], .int .i64 f, .int .i64 t] w fun e w' => e = .returned (lineV (betwL (lnsOf W H Z) f t)) ∧ Below w.heap.size w w' := by
  obtain ⟨xs, hxs⟩ : ∃ xs, lnsOf W H Z = xs := ⟨_, rfl⟩
  have hle := lnsOf_le W H Z
  have C1 := Lib.hid (fun w => specLinesA W H Z w)
  rw [hxs] at hle C1 ⊢
  clear hxs
  obtain ⟨n, hn⟩ : ∃ n, xs.length = n := ⟨_, rfl⟩
  have HN := Lib.hid hn
  rw [hn] at hle
  clear hn
  go_enter Try.func103, Try.ntmps103
  go_wp2_with fail
  have B0 := Lib.hid (two_new W H Z w)
  generalize (w.alloc (.cells #[.int .i64 W, .int .i64 H, .int .i64 Z] 25)).alloc (.cells #[.int .i64 0, .int .i64 0, .int .i64 0] 76) = W1 at *
  refine (C1.out _).mono ?_
  rintro e w1 ⟨v, rfl, hh, hb1⟩
  rw [HN.out] at hh
  have B1 := Lib.hid (B0.out.later hb1)
  have HH := Lib.hid hh
  obtain ⟨ga, gc, rfl⟩ := lines_form hh
  clear hb1 B0 hh
  go_wp2_with fail
  generalize W1.heap.size = B at *
  obtain ⟨⟨c0, c1, c2, hlt, hbw⟩, hr, hlt2⟩ := B1.out
  go_loop [9] (fun i => ∃ k : Nat, k ≤ n ∧ i = .int .i64 k ∧ Hid ((xs.take k).find? (fun l => l.1 == f && l.2.2 == t) = none)) (fun i => n - (intOf i).toNat)
  case atStart => exact ⟨0, by omega, rfl, rfl⟩
  case round =>
    obtain ⟨k, hk, rfl, hf⟩ := hrel
    by_cases hkn : k < n
    · obtain ⟨⟨lf, lo, lt⟩, hl⟩ : ∃ l, xs[k]? = some l := ⟨_, List.getElem?_eq_getElem (by rw [HN.out]; exact hkn)⟩
      have k0 : (0 : Int) ≤ (k : Int) := by omega
      have k1 : (k : Int) < (n : Int) := by omega
      obtain ⟨g, rfl⟩ : ∃ g, ga = some ⟨g, 0, none⟩ := by
        rcases Go.Joins.ownsRow_forms HH.out with ⟨h, h0⟩ | ⟨g, cap, h⟩
        · omega
        · injection h with h1 h2 h3; exact ⟨g, h1⟩
      obtain ⟨l0, l1, l2⟩ := line_cells HH.out HN.out hl
      cases e1 : lf == f
      · have hstep := Lib.hid (find_step (p := fun l : Ln => l.1 == f && l.2.2 == t) hf.out hl (by simp only [e1]; rfl))
        clear hl hf hr
        go_wp2_with fail
        go_round
        case rel => exact ⟨k + 1, by omega, by go_num, hstep⟩
        case measure => simp [intOf]; omega
      · cases e2 : lt == t
        · have hstep := Lib.hid (find_step (p := fun l : Ln => l.1 == f && l.2.2 == t) hf.out hl (by simp only [e1, e2]; rfl))
          clear hl hf hr
          go_wp2_with fail
          go_round
          case rel => exact ⟨k + 1, by omega, by go_num, hstep⟩
          case measure => simp [intOf]; omega
        · have hstep := Lib.hid (find_at (p := fun l : Ln => l.1 == f && l.2.2 == t) hf.out hl (by simp only [e1, e2]; rfl))
          clear hl hf
          have hE : Hid (lineV (betwL xs f t) = .tuple #[.agg #[.int .i64 lf, .int .i64 lo, .int .i64 lt], .bool true]) := by unfold Hid betwL; rw [hstep.out]; rfl
          obtain ⟨r0, r1, r2, f0, f1, f2⟩ := row_facts hr
          have hr3 := row_facts (row_set3 (x' := .int .i64 lf) (y' := .int .i64 lo) (z' := .int .i64 lt) hr)
          have hb3 := set3_below (x := .int .i64 lf) (y := .int .i64 lo) (z := .int .i64 lt) hbw (Nat.le_succ w.heap.size)
          unfold set3 at hr3 hb3
          obtain ⟨s0, s1, s2, -, -, -⟩ := hr3
          clear hr hstep
          go_wp2_with fail
          exact bodyPost_ret (v := .tuple #[.agg #[.int .i64 lf, .int .i64 lo, .int .i64 lt], .bool true]) (by simp [results, Try.results103, go_sem, s0, s1, s2]) rfl ⟨by rw [hE.out], hb3⟩
    · obtain rfl : k = n := by omega
      have hE : Hid (lineV (betwL xs f t) = .tuple #[.agg #[.int .i64 0, .int .i64 0, .int .i64 0], .bool false]) := by
        unfold Hid betwL
        rw [← List.take_of_length_le (l := xs) (by rw [HN.out]; exact Nat.le_refl k), hf.out]
        rfl
      obtain ⟨r0, r1, r2, f0, f1, f2⟩ := row_facts hr
      clear hr hf
      go_wp2_with fail
      exact bodyPost_ret (v := .tuple #[.agg #[.int .i64 0, .int .i64 0, .int .i64 0], .bool false]) (by simp [results, Try.results103, go_sem, r0, r1, r2]) rfl ⟨by rw [hE.out], by repeat (first | exact hbw | refine set_below ?_ (by omega))⟩
theorem onB_eq (k f o t : Int) : onB k (f, o, t) = (k == f || k == o || k == t) := by
  unfold onB
  rw [show (f == k) = (k == f) from BEq.comm, show (o == k) = (k == o) from BEq.comm, show (t == k) = (k == t) from BEq.comm]
end Go.Proofs.Ytgkmapemnlgldaa

namespace Go.Proofs.Ytgkmapemnlgldaa
open Go.RowKit
set_option linter.unusedVariables false
set_option linter.unusedSimpArgs false
theorem thrL_le (xs : List Ln) (k : Int) : (thrL xs k).length ≤ xs.length := List.length_filter_le _ _
/-- Whether an index is that of a hole that no line contains. -/
def loneB (W H Z k : Int) : Bool := holeB W H Z k && ((thrL (lnsOf W H Z) k).length == 0)
end Go.Proofs.Ytgkmapemnlgldaa

namespace Go.Proofs.Ytgkmapemnlgldaa
set_option linter.unusedVariables false
set_option linter.unusedSimpArgs false
theorem lineN_some {a b z k d : Nat} {l : Ln} (h : lineN a b z k d = some l) : ∃ o t, stepN a b z k d = some o ∧ stepN a b z o d = some t ∧ l = ((k : Int), (o : Int), (t : Int)) := by
  unfold lineN at h
  cases h1 : stepN a b z k d with
  | none => rw [h1] at h; cases h
  | some o =>
    rw [h1] at h
    cases h2 : stepN a b z o d with
    | none => simp only [h2] at h; cases h
    | some t => simp only [h2, Option.some.injEq] at h; exact ⟨o, t, rfl, h2, h.symm⟩
theorem stepN_some {a b z k d j : Nat} (h : stepN a b z k d = some j) : nbr a b k d = some j ∧ bit z j = true := by
  unfold stepN at h
  cases h1 : nbr a b k d with
  | none => rw [h1] at h; cases h
  | some j' =>
    rw [h1] at h
    simp only at h
    split at h
    · rename_i hb; obtain rfl := Option.some.inj h; exact ⟨rfl, hb⟩
    · cases h
theorem stepN_of {a b z k d j : Nat} (h : nbr a b k d = some j) (hb : bit z j = true) : stepN a b z k d = some j := by
  unfold stepN; rw [h]; simp only; rw [if_pos hb]
def opp (d : Nat) : Nat := (d + 2) % 4
def delta (a d : Nat) : Int := if d = 0 then 1 else if d = 1 then (a : Int) else if d = 2 then -1 else -(a : Int)
theorem nbr_delta {a b k d j : Nat} (ha : 0 < a) (h : nbr a b k d = some j) : (j : Int) = k + delta a d := by
  unfold nbr at h
  unfold delta
  repeat' split at h
  all_goals first | (cases h; done) | skip
  all_goals simp only [Option.some.injEq] at h
  all_goals (simp only [*, if_true, if_false])
  · omega
  · omega
  · have := Nat.mod_le k a; omega
  · have h1 : a ≤ k := by
      rcases Nat.lt_or_ge k a with h' | h'
      · rw [Nat.div_eq_of_lt h'] at *; omega
      · exact h'
    omega
theorem nbr_opp {a b k d j : Nat} (ha : 0 < a) (hk : k < a * b) (hd : d < 4) (h : nbr a b k d = some j) : nbr a b j (opp d) = some k := by
  have hm := Nat.div_add_mod k a
  have hl := Nat.mod_lt k ha
  have hb : k / a < b := Nat.div_lt_of_lt_mul hk
  match d, hd with
  | 0, _ =>
    simp only [nbr, if_true] at h
    split at h
    · rename_i hc
      obtain rfl := Option.some.inj h
      have e : (k + 1) % a = k % a + 1 := by
        rw [Nat.add_mod, Nat.mod_eq_of_lt (show 1 < a by omega), Nat.mod_eq_of_lt hc]
      simp [opp, nbr, e]
    · cases h
  | 1, _ =>
    simp only [nbr, Nat.one_ne_zero, if_true, if_false] at h
    split at h
    · obtain rfl := Option.some.inj h
      simp [opp, nbr, Nat.add_div_right _ ha]
    · cases h
  | 2, _ =>
    simp only [nbr, if_true, show ¬ (2 : Nat) = 0 by decide, show ¬ (2 : Nat) = 1 by decide, if_false] at h
    split at h
    · rename_i hc
      obtain rfl := Option.some.inj h
      obtain ⟨k', rfl⟩ : ∃ k', k = k' + 1 := ⟨k - 1, by have := Nat.mod_le k a; omega⟩
      have e : k' % a + 1 < a := by
        rcases Nat.lt_or_ge (k' % a + 1) a with h' | h'
        · exact h'
        · have h1 := Nat.mod_lt k' ha
          have h2 : k' % a + 1 = a := by omega
          have h3 : (k' + 1) % a = 0 := by
            rw [← Nat.mod_add_div k' a, show k' % a + a * (k' / a) + 1 = a + a * (k' / a) by omega, Nat.add_mul_mod_self_left, Nat.mod_self]
          omega
      simp [opp, nbr, e]
    · cases h
  | 3, _ =>
    simp only [nbr, show ¬ (3 : Nat) = 0 by decide, show ¬ (3 : Nat) = 1 by decide, show ¬ (3 : Nat) = 2 by decide, if_false] at h
    split at h
    · rename_i hc
      obtain rfl := Option.some.inj h
      have h1 : a ≤ k := by
        rcases Nat.lt_or_ge k a with h' | h'
        · rw [Nat.div_eq_of_lt h'] at hc; omega
        · exact h'
      have e : (k - a) / a = k / a - 1 := by
        obtain ⟨m, rfl⟩ : ∃ m, k = m + a := ⟨k - a, by omega⟩
        rw [Nat.add_sub_cancel, Nat.add_div_right _ ha]; rfl
      have h2 : k - a + a = k := by omega
      have h3 : k / a - 1 + 1 < b := by omega
      simp [opp, nbr, e, h2, h3]
    · cases h
theorem step_opp {a b z k d j : Nat} (ha : 0 < a) (hk : k < a * b) (hd : d < 4) (hb : bit z k = true) (h : stepN a b z k d = some j) : stepN a b z j (opp d) = some k :=
  stepN_of (nbr_opp ha hk hd (stepN_some h).1) hb
theorem opp_lt (d : Nat) : opp d < 4 := Nat.mod_lt _ (by decide)
/-- A line of a board: its three holes. -/
def isLine (a b z : Nat) (l : Ln) : Prop := ∃ k o t d : Nat, d < 4 ∧ k < a * b ∧ bit z k = true ∧ stepN a b z k d = some o ∧ stepN a b z o d = some t ∧ l = ((k : Int), (o : Int), (t : Int))
theorem mem_row {a b z k : Nat} {l : Ln} : l ∈ lineRow a b z k 4 ↔ ∃ d, d < 4 ∧ lineN a b z k d = some l := by
  simp [lineRow, List.mem_filterMap]
theorem mem_lines {a b N z : Nat} (hN : a * b = N) {l : Ln} : l ∈ linesOf a b z (bitsOf N z) ↔ isLine a b z l := by
  unfold linesOf isLine
  rw [List.mem_flatMap]
  constructor
  · rintro ⟨k, hk, hl⟩
    obtain ⟨d, hd, hl⟩ := mem_row.1 hl
    obtain ⟨o, t, h1, h2, rfl⟩ := lineN_some hl
    obtain ⟨hk1, hk2⟩ := mem_bitsOf.1 hk
    exact ⟨k, o, t, d, hd, by omega, hk2, h1, h2, rfl⟩
  · rintro ⟨k, o, t, d, hd, hk, hb, h1, h2, rfl⟩
    exact ⟨k, mem_bitsOf.2 ⟨by omega, hb⟩, mem_row.2 ⟨d, hd, by simp [lineN, h1, h2]⟩⟩
/-- The reverse of a line. -/
def rev (l : Ln) : Ln := (l.2.2, l.2.1, l.1)
theorem rev_rev (l : Ln) : rev (rev l) = l := rfl
theorem isLine.rev {a b z : Nat} {l : Ln} (ha : 0 < a) (h : isLine a b z l) : isLine a b z (rev l) := by
  obtain ⟨k, o, t, d, hd, hk, hb, h1, h2, rfl⟩ := h
  have ho := stepN_lt ha hk h1
  have ht := stepN_lt ha ho h2
  exact ⟨t, o, k, opp d, opp_lt d, ht, (stepN_some h2).2, step_opp ha ho hd (stepN_some h1).2 h2, step_opp ha hk hd hb h1, rfl⟩
theorem isLine.mid {a b z : Nat} {l : Ln} (ha : 0 < a) (h : isLine a b z l) : l.1 + l.2.2 = 2 * l.2.1 ∧ l.1 ≠ l.2.1 ∧ l.1 ≠ l.2.2 ∧ l.2.1 ≠ l.2.2 := by
  obtain ⟨k, o, t, d, hd, hk, hb, h1, h2, rfl⟩ := h
  have e1 := nbr_delta ha (stepN_some h1).1
  have e2 := nbr_delta ha (stepN_some h2).1
  have hne : delta a d ≠ 0 := by
    unfold delta
    repeat' split
    all_goals omega
  simp only
  omega
/-- Two lines with one From and one To are one. -/
theorem isLine.one {a b z : Nat} {l l' : Ln} (ha : 0 < a) (h : isLine a b z l) (h' : isLine a b z l') (h1 : l.1 = l'.1) (h2 : l.2.2 = l'.2.2) : l = l' := by
  have e := (h.mid ha).1
  have e' := (h'.mid ha).1
  obtain ⟨f, o, t⟩ := l
  obtain ⟨f', o', t'⟩ := l'
  simp only at *
  subst h1 h2
  have : o = o' := by omega
  rw [this]
theorem betw_self {a b N z : Nat} (hN : a * b = N) (ha : 0 < a) {l : Ln} (h : l ∈ linesOf a b z (bitsOf N z)) : betwL (linesOf a b z (bitsOf N z)) l.1 l.2.2 = some l := by
  cases hf : betwL (linesOf a b z (bitsOf N z)) l.1 l.2.2 with
  | none =>
    have := List.find?_eq_none.1 hf l h
    simp at this
  | some l' =>
    have h1 := List.find?_some hf
    have h2 := List.mem_of_find?_eq_some hf
    simp only [Bool.and_eq_true, beq_iff_eq] at h1
    rw [((mem_lines hN).1 h2).one ha ((mem_lines hN).1 h) h1.1 h1.2]
theorem betw_rev {a b N z : Nat} (hN : a * b = N) (ha : 0 < a) {l : Ln} (h : l ∈ linesOf a b z (bitsOf N z)) : betwL (linesOf a b z (bitsOf N z)) l.2.2 l.1 = some (rev l) :=
  betw_self hN ha ((mem_lines hN).2 (((mem_lines hN).1 h).rev ha))
theorem two_mem {α : Type} {l : List α} {x y : α} (hx : x ∈ l) (hy : y ∈ l) (hne : x ≠ y) : 2 ≤ l.length := by
  match l, hx, hy with
  | [], hx, _ => cases hx
  | [z], hx, hy => simp at hx hy; exact absurd (hx.trans hy.symm) hne
  | _ :: _ :: _, _, _ => simp
theorem thr_two {a b N z : Nat} (hN : a * b = N) (ha : 0 < a) {l : Ln} (h : l ∈ linesOf a b z (bitsOf N z)) : 2 ≤ (thrL (linesOf a b z (bitsOf N z)) l.2.1).length := by
  have hl := (mem_lines hN).1 h
  have hr := (mem_lines hN).2 (hl.rev ha)
  refine two_mem (x := l) (y := rev l) (List.mem_filter.2 ⟨h, by simp [onB]⟩) (List.mem_filter.2 ⟨hr, by simp [onB, rev]⟩) ?_
  intro e
  have := congrArg (fun x : Ln => x.1) e
  exact (hl.mid ha).2.2.1 this
/-! The number of lines is even. -/
theorem even_of_rev {α : Type} [DecidableEq α] (r : α → α) (hrr : ∀ x, r (r x) = x) : ∀ (n : Nat) (l : List α), l.length = n → l.Nodup → (∀ x ∈ l, r x ∈ l) → (∀ x ∈ l, r x ≠ x) → n % 2 = 0 := by
  intro n
  induction n using Nat.strongRecOn with
  | _ n ih =>
    intro l hl hn hr hne
    match l, hl, hn, hr, hne with
    | [], hl, _, _, _ => simp at hl; omega
    | x :: t, hl, hn, hr, hne =>
      have hxt : r x ∈ t := by
        rcases List.mem_cons.1 (hr x (List.mem_cons_self)) with h | h
        · exact absurd h (hne x List.mem_cons_self)
        · exact h
      have hnt := (List.nodup_cons.1 hn)
      have hlen : (t.erase (r x)).length = n - 2 := by
        rw [List.length_erase_of_mem hxt]
        simp at hl
        omega
      have hpos := List.length_pos_of_mem hxt
      simp at hl
      have := ih (n - 2) (by omega) (t.erase (r x)) hlen (hnt.2.erase _) (fun y hy => by
        have hyt : y ∈ t := List.mem_of_mem_erase hy
        have hyx : y ≠ r x := fun e => by rw [e] at hy; exact (List.Nodup.not_mem_erase hnt.2) hy
        rcases List.mem_cons.1 (hr y (List.mem_cons_of_mem _ hyt)) with h | h
        · exact absurd (by rw [← h, hrr]) hyx
        · refine (List.mem_erase_of_ne ?_).2 h
          intro e
          have : y = x := by rw [← hrr y, e, hrr]
          rw [this] at hyt
          exact hnt.1 hyt) (fun y hy => hne y (List.mem_cons_of_mem _ (List.mem_of_mem_erase hy)))
      omega
theorem nbr_dir {a b k d d' j : Nat} (hd : d < 4) (hd' : d' < 4) (ha : 0 < a) (hb : k < a * b) (h : nbr a b k d = some j) (h' : nbr a b k d' = some j) : d = d' := by
  have e1 := nbr_delta ha h
  have e2 := nbr_delta ha h'
  have hm := Nat.mod_lt k ha
  unfold nbr at h h'
  unfold delta at e1 e2
  match d, hd, d', hd' with
  | 0, _, 0, _ | 1, _, 1, _ | 2, _, 2, _ | 3, _, 3, _ => rfl
  | 0, _, 1, _ | 1, _, 0, _ | 0, _, 2, _ | 2, _, 0, _ | 0, _, 3, _ | 3, _, 0, _ | 1, _, 2, _ | 2, _, 1, _ | 1, _, 3, _ | 3, _, 1, _ | 2, _, 3, _ | 3, _, 2, _ =>
    simp at e1 e2
    repeat' split at h
    all_goals first | (cases h; done) | skip
    all_goals repeat' split at h'
    all_goals first | (cases h'; done) | omega
theorem row_nodup {a b z k : Nat} (ha : 0 < a) (hk : k < a * b) : (lineRow a b z k 4).Nodup := by
  unfold lineRow List.Nodup
  rw [List.pairwise_filterMap]
  refine List.Pairwise.imp_of_mem ?_ List.nodup_range
  intro d d' hd hd' hne l h1 l' h2 e
  subst e
  obtain ⟨o, t, s1, s2, rfl⟩ := lineN_some h1
  obtain ⟨o', t', s1', s2', e⟩ := lineN_some h2
  have ho : o = o' := by
    have := congrArg (fun x : Ln => x.2.1) e
    simp only at this
    omega
  subst ho
  exact hne (nbr_dir (List.mem_range.1 hd) (List.mem_range.1 hd') ha hk (stepN_some s1).1 (stepN_some s1').1)
theorem lines_nodup {a b N z : Nat} (hN : a * b = N) (ha : 0 < a) : (linesOf a b z (bitsOf N z)).Nodup := by
  unfold linesOf List.Nodup
  rw [List.pairwise_flatMap]
  constructor
  · intro k hk
    exact row_nodup ha (by have := (mem_bitsOf.1 hk).1; omega)
  · refine List.Pairwise.imp ?_ (bitsOf_up N z)
    intro k k' hlt x hx y hy e
    subst e
    obtain ⟨d, _, h1⟩ := mem_row.1 hx
    obtain ⟨d', _, h2⟩ := mem_row.1 hy
    obtain ⟨o, t, -, -, rfl⟩ := lineN_some h1
    obtain ⟨o', t', -, -, e⟩ := lineN_some h2
    have := congrArg (fun x : Ln => x.1) e
    simp only at this
    omega
theorem lines_even {a b N z : Nat} (hN : a * b = N) (ha : 0 < a) : (linesOf a b z (bitsOf N z)).length % 2 = 0 :=
  even_of_rev rev rev_rev _ _ rfl (lines_nodup hN ha) (fun x hx => (mem_lines hN).2 (((mem_lines hN).1 hx).rev ha)) (fun x hx e => by
    have := congrArg (fun x : Ln => x.1) e
    exact (((mem_lines hN).1 hx).mid ha).2.2.1 this.symm)
/-- The number of lines of a rectangle. -/
theorem rect_lines (a b : Nat) (ha : 1 ≤ a) (ha7 : a ≤ 7) (hb : 1 ≤ b) (hb7 : b ≤ 7) : (linesOf a b (2 ^ (a * b) - 1) (bitsOf (a * b) (2 ^ (a * b) - 1))).length = 2 * ((a - 2) * b + a * (b - 2)) := by
  have key : ∀ x y : Fin 7, (linesOf (x.val + 1) (y.val + 1) (2 ^ ((x.val + 1) * (y.val + 1)) - 1) (bitsOf ((x.val + 1) * (y.val + 1)) (2 ^ ((x.val + 1) * (y.val + 1)) - 1))).length = 2 * ((x.val + 1 - 2) * (y.val + 1) + (x.val + 1) * (y.val + 1 - 2)) := by decide +kernel
  have := key ⟨a - 1, by omega⟩ ⟨b - 1, by omega⟩
  simp only [show a - 1 + 1 = a by omega, show b - 1 + 1 = b by omega] at this
  exact this
end Go.Proofs.Ytgkmapemnlgldaa
