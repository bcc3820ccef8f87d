/- Slices of soldiers (structs of two ints): lists in memory, slices that come in as arguments; eqSoldierS, szSoldierS, toSoldierS of the exact laws. Of at most 1048576 soldiers. -/
import Derived.Test.YtoginbmflomjeaaArmyMath
import Derived.Test.YtoginbmflomjeaaGolds
import Derived.Test.YtoginbmflomjeaaLinesAll
import Derived.Test.YtoginbmflomjeaaBoards
import Derived.OwnWalk
import Derived.IntWalk
import Derived.Deep.Slices
import Derived.Deep.Fields
namespace Go.Proofs.Ytoginbmflomjeaa
open Go.RowKit
set_option linter.unusedVariables false
set_option linter.unusedSimpArgs false
def sdC (s : Sd) : List Value := [.int .i64 s.1, .int .i64 s.2]
def sv (xs : List Sd) : List Value := xs.flatMap sdC
theorem sv_append (a b : List Sd) : sv (a ++ b) = sv a ++ sv b := by simp [sv]
theorem sv_one (s : Sd) : sv [s] = sdC s := by simp [sv]
theorem sv_length (xs : List Sd) : (sv xs).length = xs.length * 2 := by
  induction xs with
  | nil => rfl
  | cons x xs ih => rw [show x :: xs = [x] ++ xs from rfl, sv_append, List.length_append, ih, sv_one]; simp [sdC]; omega
theorem sv_get {xs : List Sd} {k : Nat} {s : Sd} (h : xs[k]? = some s) : (sv xs)[k * 2]? = some (.int .i64 s.1) ∧ (sv xs)[k * 2 + 1]? = some (.int .i64 s.2) := by
  induction xs generalizing k with
  | nil => simp at h
  | cons x xs ih =>
    have e : sv (x :: xs) = .int .i64 x.1 :: .int .i64 x.2 :: sv xs := rfl
    rw [e]
    cases k with
    | zero => simp at h; subst h; exact ⟨rfl, rfl⟩
    | succ k =>
      simp at h
      rw [show (k + 1) * 2 = k * 2 + 1 + 1 by omega]
      simp only [List.getElem?_cons_succ]
      exact ih h
theorem solds_form {w : World} {b n : Nat} {e : TypeId} {v : Value} {xs : List Value} (h : w.ownsRow b e 2 v n xs) : ∃ a c, v = .slice a n c := by
  rcases Go.Joins.ownsRow_forms h with ⟨rfl, rfl⟩ | ⟨g, cap, rfl⟩
  · exact ⟨_, _, rfl⟩
  · exact ⟨_, _, rfl⟩
/-- A slice of soldiers that can be read: the soldiers that it holds. -/
def SoldsAt (w : World) (a : Option Addr) (len : Nat) (xs : List Sd) : Prop :=
  xs.length = len ∧ (len = 0 ∨ ∃ b off, a = some ⟨b, off, none⟩ ∧ b < w.heap.size ∧ ∀ (k : Nat) (s : Sd), xs[k]? = some s → w.cell? ⟨b, off + k * 2, none⟩ = some (.int .i64 s.1) ∧ w.cell? ⟨b, off + k * 2 + 1, none⟩ = some (.int .i64 s.2))
theorem SoldsAt.later {w w' : World} {a : Option Addr} {len : Nat} {xs : List Sd} (h : SoldsAt w a len xs) (hb : Below w.heap.size w w') : SoldsAt w' a len xs := by
  refine ⟨h.1, h.2.imp id ?_⟩
  rintro ⟨b, off, rfl, hlt, hc⟩
  refine ⟨b, off, rfl, Nat.lt_of_lt_of_le hlt hb.size, fun k s hk => ?_⟩
  obtain ⟨h1, h2⟩ := hc k s hk
  exact ⟨(hb.cell hlt).trans h1, (hb.cell hlt).trans h2⟩
theorem SoldsAt.cell {w : World} {a : Option Addr} {len : Nat} {xs : List Sd} (h : SoldsAt w a len xs) {k : Nat} (hk : k < len) : ∃ b off, a = some ⟨b, off, none⟩ ∧ b < w.heap.size ∧ ∀ (k : Nat) (s : Sd), xs[k]? = some s → w.cell? ⟨b, off + k * 2, none⟩ = some (.int .i64 s.1) ∧ w.cell? ⟨b, off + k * 2 + 1, none⟩ = some (.int .i64 s.2) := by
  rcases h.2 with h0 | h0
  · omega
  · exact h0
theorem solds_own {w : World} {B n c : Nat} {T : TypeId} {a : Option Addr} {xs : List Sd} (h : w.ownsRow B T 2 (.slice a n c) n (sv xs)) (hn : xs.length = n) : SoldsAt w a n xs := by
  refine ⟨hn, ?_⟩
  rcases h.2 with ⟨h1, h2⟩ | ⟨g, cap, cur, h1, hb, hg, -⟩
  · exact .inl h2
  · right
    injection h1 with h1 h2 h3
    subst h1 h3
    refine ⟨g, 0, rfl, (h.lt g rfl).2, fun k s hk => ?_⟩
    have hkn : k < n := by rw [← hn]; exact (List.getElem?_eq_some_iff.1 hk).1
    obtain ⟨e1, e2⟩ := sv_get hk
    have hl : (sv xs).length = n * 2 := by rw [sv_length, hn]
    rw [Nat.zero_add]
    exact ⟨by rw [h.cellAt _ (by omega)]; exact e1, by rw [h.cellAt _ (by omega)]; exact e2⟩
open Go.Deep in
theorem solds_of {H : Type} {enc : TypeId × Value → H} {P : Program} {w : World} {base : Nat} {spare : Nat → Bool} {held : Bool} {t e : TypeId} {f0 f1 : Field} {a : Option Addr} {len cap : Nat} {d : DataW H} {p : List MemPlace}
    (ht : P.underlying t = some (.slice e)) (he : P.underlying e = some (.struct #[f0, f1])) (ce : P.cellsOf e = 2) (hone : Go.Deep.oneCellFields P #[f0, f1] = true)
    (i0 : P.underlying f0.type = some (.int .i64)) (i1 : P.underlying f1.type = some (.int .i64))
    (h0 : DataW.Trod enc P w base spare held t (.slice a len cap) d p) : ∃ xs, SoldsAt w a len xs ∧ len ≤ maxLen := by
  obtain ⟨fuel, h⟩ := h0
  rcases open_slice ht h with ⟨hcs, _⟩ | ⟨a', len', cap', m, n, D, Pl, hcs, hb, hl, hm, hmm, _, hx⟩
  · simp [Value.cells] at hcs
    obtain ⟨rfl, rfl, rfl⟩ := hcs
    exact ⟨[], ⟨rfl, .inl rfl⟩, Nat.zero_le _⟩
  · simp [Value.cells] at hcs
    obtain ⟨rfl, rfl, rfl⟩ := hcs
    have hlm : len ≤ m := by rw [hmm]; split <;> omega
    obtain ⟨o0, k0⟩ := Go.Deep.hone_of hone 0 f0 rfl
    obtain ⟨o1, k1⟩ := Go.Deep.hone_of hone 1 f1 rfl
    have each : ∀ i, i < len → ∃ q : Sd, w.cell? (a'.add (i * 2)) = some (.int .i64 q.1) ∧ w.cell? (a'.add (i * 2 + 1)) = some (.int .i64 q.2) := by
      intro i hi
      obtain ⟨cs', h1, h2⟩ := hx i (by omega)
      rw [ce] at h1
      obtain ⟨_, hlen, hcell⟩ := World.cells?_some h1
      obtain ⟨xs, k, hk, hxy, _, hxl, hf⟩ := DataW.trod_struct he h2
      match xs, hxl, cs', hlen with
      | [y0, y1], _, [v0, v1], _ =>
        have g0 := hf 0 f0 rfl
        have g1 := hf 1 f1 rfl
        simp [o0, o1, k0, k1] at g0 g1
        have e0 := hcell 0 (by omega)
        have e1 := hcell 1 (by omega)
        rw [add_add] at e0 e1
        obtain ⟨n0, m0, -, -⟩ := DataW.trod_int i0 g0
        obtain ⟨n1, m1, -, -⟩ := DataW.trod_int i1 g1
        simp at m0 m1
        subst m0 m1
        exact ⟨(n0, n1), by simpa using e0, by simpa using e1⟩
    obtain ⟨f, hf⟩ := choose_lt each
    refine ⟨(List.range len).map f, ⟨by simp, ?_⟩, Nat.le_trans hl hm⟩
    by_cases hz : len = 0
    · exact .inl hz
    · right
      obtain ⟨b, off, spot⟩ := a'
      have hc := (hf 0 (by omega)).1
      have hspot : spot = none := by simpa [Addr.add] using World.cell?_spot hc
      subst hspot
      have hc0 : w.cell? ⟨b, off, none⟩ = some (.int .i64 (f 0).1) := by simpa [Addr.add] using hc
      refine ⟨b, off, rfl, World.block_lt_of_cell? w _ hc0, fun k s hk => ?_⟩
      have hkl : k < len := by have := (List.getElem?_eq_some_iff.1 hk).1; simpa using this
      obtain rfl : f k = s := by simpa [hkl] using hk
      obtain ⟨h1, h2⟩ := hf k hkl
      have e : ∀ j, (⟨b, off, none⟩ : Addr).add j = ⟨b, off + j, none⟩ := fun j => by unfold Addr.add; split <;> simp_all
      rw [e] at h1 h2
      exact ⟨h1, by rw [Nat.add_assoc]; exact h2⟩
theorem put_sold (l : List Value) (ys : List Sd) (x : Sd) {k n : Nat} (hy : ys.length = k) (hl : l.length = n * 2) (hk : k < n) :
    ((sv ys ++ l.drop (k * 2)).set (k * 2) (.int .i64 x.1)).set (k * 2 + 1) (.int .i64 x.2) = sv (ys ++ [x]) ++ l.drop ((k + 1) * 2) := by
  obtain ⟨a, b, hd⟩ : ∃ a b, l.drop (k * 2) = a :: b :: l.drop ((k + 1) * 2) := by
    refine ⟨l[k * 2]'(by omega), l[k * 2 + 1]'(by omega), ?_⟩
    rw [List.drop_eq_getElem_cons (show k * 2 < l.length by omega), List.drop_eq_getElem_cons (show k * 2 + 1 < l.length by omega), show k * 2 + 1 + 1 = (k + 1) * 2 by omega]
  rw [hd, sv_append, sv_one]
  have hL : (sv ys).length = k * 2 := by rw [sv_length, hy]
  generalize sv ys = L at *
  generalize l.drop ((k + 1) * 2) = r
  rw [← hL]
  simp [sdC, List.set_append_right]
theorem szs_is {a : Option Addr} {len cap : Nat} (w : World) (h : len ≤ 1048576) : Calls Try.prog 19 #[.slice a len cap, .int .i64 1048576] w fun e w' => e = .returned (.int .i64 ((1048576 - len : Nat) : Int)) ∧ w = w' := by
  obtain ⟨r, hr⟩ : ∃ r, 1048576 - len = r := ⟨_, rfl⟩
  have h0 : IntKind.i64.wrap ((1048576 : Int) - (len : Int)) = (r : Int) := by rw [show (1048576 : Int) - (len : Int) = (r : Int) by omega]; exact IntWalk.i64_in _ (by omega)
  have h1 : ¬ (r : Int) < 0 := by omega
  rw [hr]
  clear hr
  go_enter Try.func19, Try.ntmps19
  go_wp2_with fail
  go_ret
  exact ⟨rfl, rfl⟩
theorem szs_far {a : Option Addr} {len cap : Nat} (w : World) (h : 1048576 < len) (hm : len ≤ maxLen) : Calls Try.prog 19 #[.slice a len cap, .int .i64 1048576] w fun e w' => e = .returned (.int .i64 (-1)) ∧ w = w' := by
  unfold maxLen at hm
  obtain ⟨r, hr⟩ : ∃ r : Nat, len - 1048576 = r := ⟨_, rfl⟩
  have h0 : IntKind.i64.wrap ((1048576 : Int) - (len : Int)) = -(r : Int) := by rw [show (1048576 : Int) - (len : Int) = -(r : Int) by omega]; exact IntWalk.i64_in _ (by omega)
  have h1 : -(r : Int) < 0 := by omega
  clear hr
  go_enter Try.func19, Try.ntmps19
  go_wp2_with fail
  go_ret
  exact ⟨rfl, rfl⟩
set_option maxRecDepth 100000 in
theorem toSd (a b : Int) (w : World) : Calls Try.prog 24 #[.agg #[.int .i64 a, .int .i64 b]] w (GQ a b w) := by
  go_enter Try.func24, Try.ntmps24
  go_wp2_with fail
  exact bodyPost_ret (v := .agg #[.int .i64 a, .int .i64 b]) (by simp [results, Try.results24, go_sem]) rfl ⟨rfl, below_res _ _ _ _⟩
set_option maxRecDepth 100000 in
theorem eqSd (a b : Int) (w : World) : Calls Try.prog 41 #[.agg #[.int .i64 a, .int .i64 b], .agg #[.int .i64 a, .int .i64 b]] w (GB true w) := by
  go_enter Try.func41, Try.ntmps41
  go_wp2_with fail
  go_ret
  exact ⟨rfl, ((Below.refl _ _).alloc (Nat.le_refl _) _).alloc (by simp) _⟩
/-- It returns a list of soldiers in new memory. -/
def OwnSolds (xs : List Sd) (w : World) (e : Ending) (w' : World) : Prop :=
  ∃ v, e = .returned v ∧ w'.ownsRow w.heap.size 37 2 v xs.length (sv xs) ∧ Below w.heap.size w w'
/-- Two cells of an owned list. -/
theorem stored2 {w : World} {b g n c : Nat} {T : TypeId} {L : List Value} (h : w.ownsRow b T 2 (.slice (some ⟨g, 0, none⟩) n c) n L) (j : Nat) (x y : Value) :
    ((w.setCell ⟨g, j, none⟩ x).setCell ⟨g, j + 1, none⟩ y).ownsRow b T 2 (.slice (some ⟨g, 0, none⟩) n c) n ((L.set j x).set (j + 1) y) ∧
    w.grownBy ((w.setCell ⟨g, j, none⟩ x).setCell ⟨g, j + 1, none⟩ y) (some g) := by
  have h1 := h.stored j x
  have h2 := h1.1.stored (j + 1) y
  exact ⟨h2.1, h1.2.trans h2.2⟩
theorem own_cells2 {w : World} {b g n c k : Nat} {T : TypeId} {xs : List Value} (h : w.ownsRow b T 2 (.slice (some ⟨g, 0, none⟩) n c) n xs) (hk : k < n) (hK : xs.length = n * 2) : ∃ v0 v1, w.cell? ⟨g, k * 2, none⟩ = some v0 ∧ w.cell? ⟨g, k * 2 + 1, none⟩ = some v1 := by
  refine ⟨xs[k * 2]'(by omega), xs[k * 2 + 1]'(by omega), ?_, ?_⟩
  · rw [h.cellAt _ (by omega)]; exact List.getElem?_eq_getElem (by omega)
  · rw [h.cellAt _ (by omega)]; exact List.getElem?_eq_getElem (by omega)
theorem toSolds_none {a : Option Addr} {cap : Nat} (w : World) : Calls Try.prog 21 #[.slice a 0 cap] w (OwnSolds [] w) := by
  obtain ⟨i0, hi, hz0, hz1, hz2⟩ : ∃ i, Try.prog.info? 37 = some i ∧ i.zero = some (.agg #[.int .i64 0, .int .i64 0]) ∧ i.size = 2 ∧ i.bytes = 16 := ⟨_, by rfl, by rfl, by rfl, by rfl⟩
  obtain ⟨w3, hmk, hrow, hg3⟩ := run_make_full (P := Try.prog) w w.heap.size 24 37 i0 (.agg #[.int .i64 0, .int .i64 0]) 2 Try.underlying24 hi hz0 hz1 .i64 .i64 0 (by rw [hz2]; omega) (by unfold maxLen; omega) (Nat.le_refl _)
  have HR : Hid (OwnSolds [] w (.returned (.slice (some ⟨w.heap.size, 0, none⟩) 0 0)) w3) := ⟨_, rfl, by simpa [madeCells, sv] using hrow, ⟨hg3.os, hg3.tape, hg3.output, hg3.size, fun j hj => hg3.block j hj (by simp)⟩⟩
  have hmk0 : (Instr.makeSlice 24 (.int .i64 0) (.int .i64 0)).run Try.prog w = .ok (.slice (some ⟨w.heap.size, 0, none⟩) 0 0) w3 := hmk
  clear hrow hg3 hmk
  go_enter Try.func21, Try.ntmps21
  go_wp2_with fail
  go_loopw [4] (fun i wr => i = .int .i64 0 ∧ wr = w3) (fun _ _ => 0)
  case atStart => exact ⟨rfl, rfl⟩
  case round =>
    obtain ⟨rfl, rfl⟩ := hrel
    go_wp2_with fail
    go_ret
    exact HR.out
set_option maxHeartbeats 1000000 in
set_option maxRecDepth 100000 in
theorem toSolds_some {b off n cap : Nat} {xs : List Sd} (w : World) (hn : n ≤ 1048576) (h : SoldsAt w (some ⟨b, off, none⟩) n xs) (hb : b < w.heap.size)
    (hc : ∀ (k : Nat) (s : Sd), xs[k]? = some s → w.cell? ⟨b, off + k * 2, none⟩ = some (.int .i64 s.1) ∧ w.cell? ⟨b, off + k * 2 + 1, none⟩ = some (.int .i64 s.2)) :
    Calls Try.prog 21 #[.slice (some ⟨b, off, none⟩) n cap] w (OwnSolds xs w) := by
  obtain ⟨i0, hi, hz0, hz1, hz2⟩ : ∃ i, Try.prog.info? 37 = some i ∧ i.zero = some (.agg #[.int .i64 0, .int .i64 0]) ∧ i.size = 2 ∧ i.bytes = 16 := ⟨_, by rfl, by rfl, by rfl, by rfl⟩
  obtain ⟨w3, hmk, hrow, hg3⟩ := run_make_full (P := Try.prog) w w.heap.size 24 37 i0 (.agg #[.int .i64 0, .int .i64 0]) 2 Try.underlying24 hi hz0 hz1 .i64 .i64 n (by rw [hz2]; omega) (by unfold maxLen; omega) (Nat.le_refl _)
  have HB3 : Hid (Below w.heap.size w w3) := ⟨hg3.os, hg3.tape, hg3.output, hg3.size, fun j hj => hg3.block j hj (by simp)⟩
  have HN := Lib.hid h.1
  have HC := Lib.hid hc
  obtain ⟨L, hL⟩ : ∃ L, (madeCells (Value.agg #[.int .i64 0, .int .i64 0]).cells (n * 2)).toList = L := ⟨_, rfl⟩
  have HL : Hid (L.length = n * 2) := by unfold Hid; rw [← hL]; simp [madeCells]
  rw [hL] at hrow
  have HR := Lib.hid hrow
  clear hrow hg3 h hc hL
  obtain ⟨q, hq⟩ : ∃ q, w.heap.size = q := ⟨_, rfl⟩
  rw [hq] at hmk HB3 HR hb
  have HQ := Lib.hid hq
  clear hq
  go_enter Try.func21, Try.ntmps21
  go_wp2_with fail
  clear hmk
  go_loopw [4] (fun i wr => ∃ k : Nat, k ≤ n ∧ i = .int .i64 k ∧ Hid (wr.ownsRow q 37 2 (.slice (some ⟨q, 0, none⟩) n n) n (sv (xs.take k) ++ L.drop (k * 2))) ∧ Hid (Below q w wr)) (fun i _ => n - (intOf i).toNat)
  case atStart => exact ⟨0, Nat.zero_le _, rfl, HR, HB3⟩
  case round =>
    obtain ⟨k, hk, rfl, HO, HW⟩ := hrel
    by_cases hlt : k < n
    · have h0 : (0 : Int) ≤ (k : Int) := by omega
      have h1 : (k : Int) < (n : Int) := by omega
      obtain ⟨⟨f, o⟩, hl⟩ : ∃ l, xs[k]? = some l := ⟨_, List.getElem?_eq_getElem (by rw [HN.out]; exact hlt)⟩
      obtain ⟨c0', c1'⟩ := HC.out k _ hl
      have c0 := (HW.out.cell hb).trans c0'
      have c1 := (HW.out.cell hb).trans c1'
      have HS := Lib.hid (take_one hl)
      have HT : Hid ((xs.take k).length = k) := by unfold Hid; rw [List.length_take, HN.out]; omega
      clear hl c0' c1'
      go_wp2_with fail
      refine (toSd _ _ _).mono ?_
      rintro e w5 ⟨rfl, hb5⟩
      have HO5 := Lib.hid (own_below HO.out hb5)
      have hqs : q ≤ wr.heap.size := by rw [← HQ.out]; exact HW.out.size
      have HW5 := Lib.hid (HW.out.trans (hb5.mono hqs))
      have hqs5 : q ≤ w5.heap.size := by rw [← HQ.out]; exact HW5.out.size
      have f0 := HO5.out.frozenAt (k * 2)
      have f1 := HO5.out.frozenAt (k * 2 + 1)
      obtain ⟨v0, v1, d0, d1⟩ := own_cells2 HO5.out hlt (by rw [List.length_append, sv_length, HT.out, List.length_drop, HL.out]; omega)
      have hst := stored2 HO5.out (k * 2) (.int .i64 f) (.int .i64 o)
      have hpl := put_sold L (xs.take k) (f, o) HT.out HL.out hlt
      rw [hpl, ← HS.out] at hst
      have HST := Lib.hid hst.1
      have HWT := Lib.hid (HW5.out.grown hst.2 hqs5 (fun j hj => by cases hj; exact Nat.le_refl _))
      clear hst hpl HO HW HO5 HW5 hb5 c0 c1
      go_wp2_with fail
      go_roundw
      case rel => exact ⟨k + 1, by omega, by go_num, HST, HWT⟩
      case measure => simp [intOf]; omega
    · obtain rfl : k = n := by omega
      have hp : Hid (OwnSolds xs w (.returned (.slice (some ⟨q, 0, none⟩) k k)) wr) := by
        refine ⟨_, rfl, ?_, ?_⟩
        · have := HO.out
          rw [List.drop_of_length_le (by rw [HL.out]; exact Nat.le_refl _), List.append_nil, List.take_of_length_le (by rw [HN.out]; exact Nat.le_refl _)] at this
          rw [HN.out, HQ.out]; exact this
        · rw [HQ.out]; exact HW.out
      clear HO HW
      go_wp2_with fail
      go_ret
      exact hp.out
theorem toSolds {a : Option Addr} {len cap : Nat} {xs : List Sd} (w : World) (hn : len ≤ 1048576) (h : SoldsAt w a len xs) : Calls Try.prog 21 #[.slice a len cap] w (OwnSolds xs w) := by
  by_cases h0 : len = 0
  · subst h0
    obtain rfl : xs = [] := List.eq_nil_of_length_eq_zero h.1
    exact toSolds_none w
  · rcases h.2 with h1 | ⟨b, off, rfl, hb, hc⟩
    · exact absurd h1 h0
    · exact toSolds_some w hn h hb hc
theorem eqSolds_none {b1 b2 : Nat} (va vb : Value) (w : World) (ha : w.ownsRow b1 37 2 va 0 []) (hb : w.ownsRow b2 37 2 vb 0 []) :
    Calls Try.prog 22 #[va, vb] w fun e w' => e = .returned (.bool true) ∧ Below w.heap.size w w' := by
  obtain ⟨a, c, rfl⟩ := solds_form ha
  obtain ⟨a', c', rfl⟩ := solds_form hb
  clear ha hb
  go_enter Try.func22, Try.ntmps22
  go_wp2
  go_loop [5, 11, 12, 13, 14] (fun i _ _ _ _ => i = .int .i64 0) (fun _ _ _ _ _ => 0)
  case atStart => rfl
  case round =>
    subst hrel
    go_wp2
    go_ret
    exact ⟨rfl, Below.refl _ _⟩
set_option maxHeartbeats 1000000 in
set_option maxRecDepth 100000 in
theorem eqSolds_some {ga gb : Option Addr} {n ca cb : Nat} (xs : List Sd) (w : World) (hx : n ≤ 1048576) (ha : SoldsAt w ga n xs) (hb : SoldsAt w gb n xs) :
    Calls Try.prog 22 #[.slice ga n ca, .slice gb n cb] w fun e w' => e = .returned (.bool true) ∧ Below w.heap.size w w' := by
  have HN := Lib.hid ha.1
  have HA := Lib.hid ha; clear ha
  have HB := Lib.hid hb; clear hb
  go_enter Try.func22, Try.ntmps22
  go_wp2
  go_loopw [5] (fun i wr => ∃ k : Nat, k ≤ n ∧ i = .int .i64 k ∧ Hid (Below w.heap.size w wr)) (fun i _ => n - (intOf i).toNat)
  case atStart => exact ⟨0, Nat.zero_le _, rfl, Below.refl _ _⟩
  case round =>
    obtain ⟨k, hk, rfl, hw⟩ := hrel
    by_cases hlt : k < n
    · have h0 : (0 : Int) ≤ (k : Int) := by omega
      have h1 : (k : Int) < (n : Int) := by omega
      obtain ⟨⟨f, o⟩, hxk⟩ : ∃ x, xs[k]? = some x := ⟨_, List.getElem?_eq_getElem (by rw [HN.out]; exact hlt)⟩
      obtain ⟨b1, o1, rfl, -, -⟩ := HA.out.cell hlt
      obtain ⟨b2, o2, rfl, -, -⟩ := HB.out.cell hlt
      have HC : Hid (∀ w', After wr w' → w'.cell? ⟨b1, o1 + k * 2, none⟩ = some (.int .i64 f) ∧ w'.cell? ⟨b1, o1 + k * 2 + 1, none⟩ = some (.int .i64 o) ∧ w'.cell? ⟨b2, o2 + k * 2, none⟩ = some (.int .i64 f) ∧ w'.cell? ⟨b2, o2 + k * 2 + 1, none⟩ = some (.int .i64 o)) := fun w' hA => by
        obtain ⟨x1, y1, e1, -, g1⟩ := ((HA.out.later hw.out).later hA).cell hlt
        obtain ⟨x2, y2, e2, -, g2⟩ := ((HB.out.later hw.out).later hA).cell hlt
        cases e1; cases e2
        obtain ⟨a1, a2⟩ := g1 k _ hxk
        obtain ⟨c1, c2⟩ := g2 k _ hxk
        exact ⟨a1, a2, c1, c2⟩
      clear hxk
      go_wp2_with fail
      refine wp_region_script (by kernel_rfl) (by kernel_rfl) ?_
      refine Script.load (i := 0) (v := ?_) rfl (by kernel_rfl) (by kernel_rfl) (fun _ _ _ h => h) (by kernel_rfl) ?_ ?_
      rotate_left
      · (intro wS hSw; have hF := HC.out wS (After.trans (After.drew (After.refl _)) hSw); go_simp; try with_reducible rfl)
      try simp only [Act.put, List.getElem_toArray, List.getElem_cons_succ, List.getElem_cons_zero, List.setIfInBounds_toArray, List.set_cons_zero, List.set_cons_succ]
      refine Script.load (i := 1) (v := ?_) rfl (by kernel_rfl) (by kernel_rfl) (fun _ _ _ h => h) (by kernel_rfl) ?_ ?_
      rotate_left
      · (intro wS hSw; have hF := HC.out wS (After.trans (After.drew (After.refl _)) hSw); go_simp; try with_reducible rfl)
      try simp only [Act.put, List.getElem_toArray, List.getElem_cons_succ, List.getElem_cons_zero, List.setIfInBounds_toArray, List.set_cons_zero, List.set_cons_succ]
      refine Script.load (i := 2) (v := ?_) rfl (by kernel_rfl) (by kernel_rfl) (fun _ _ _ h => h) (by kernel_rfl) ?_ ?_
      rotate_left
      · (intro wS hSw; have hF := HC.out wS (After.trans (After.drew (After.refl _)) hSw); go_simp; try with_reducible rfl)
      try simp only [Act.put, List.getElem_toArray, List.getElem_cons_succ, List.getElem_cons_zero, List.setIfInBounds_toArray, List.set_cons_zero, List.set_cons_succ]
      refine Script.load (i := 3) (v := ?_) rfl (by kernel_rfl) (by kernel_rfl) (fun _ _ _ h => h) (by kernel_rfl) ?_ ?_
      rotate_left
      · (intro wS hSw; have hF := HC.out wS (After.trans (After.drew (After.refl _)) hSw); go_simp; try with_reducible rfl)
      try simp only [Act.put, List.getElem_toArray, List.getElem_cons_succ, List.getElem_cons_zero, List.setIfInBounds_toArray, List.set_cons_zero, List.set_cons_succ]
      refine Script.load (i := 4) (v := ?_) rfl (by kernel_rfl) (by kernel_rfl) (fun _ _ _ h => h) (by kernel_rfl) ?_ ?_
      rotate_left
      · (intro wS hSw; have hF := HC.out wS (After.trans (After.drew (After.refl _)) hSw); go_simp; try with_reducible rfl)
      try simp only [Act.put, List.getElem_toArray, List.getElem_cons_succ, List.getElem_cons_zero, List.setIfInBounds_toArray, List.set_cons_zero, List.set_cons_succ]
      refine Script.load (i := 5) (v := ?_) rfl (by kernel_rfl) (by kernel_rfl) (fun _ _ _ h => h) (by kernel_rfl) ?_ ?_
      rotate_left
      · (intro wS hSw; have hF := HC.out wS (After.trans (After.drew (After.refl _)) hSw); go_simp; try with_reducible rfl)
      try simp only [Act.put, List.getElem_toArray, List.getElem_cons_succ, List.getElem_cons_zero, List.setIfInBounds_toArray, List.set_cons_zero, List.set_cons_succ]
      refine Script.load (i := 6) (v := ?_) rfl (by kernel_rfl) (by kernel_rfl) (fun _ _ _ h => h) (by kernel_rfl) ?_ ?_
      rotate_left
      · (intro wS hSw; have hF := HC.out wS (After.trans (After.drew (After.refl _)) hSw); go_simp; try with_reducible rfl)
      try simp only [Act.put, List.getElem_toArray, List.getElem_cons_succ, List.getElem_cons_zero, List.setIfInBounds_toArray, List.set_cons_zero, List.set_cons_succ]
      refine Script.load (i := 7) (v := ?_) rfl (by kernel_rfl) (by kernel_rfl) (fun _ _ _ h => h) (by kernel_rfl) ?_ ?_
      rotate_left
      · (intro wS hSw; have hF := HC.out wS (After.trans (After.drew (After.refl _)) hSw); go_simp; try with_reducible rfl)
      try simp only [Act.put, List.getElem_toArray, List.getElem_cons_succ, List.getElem_cons_zero, List.setIfInBounds_toArray, List.set_cons_zero, List.set_cons_succ]
      refine Script.call (i := 8) (v := ?_) rfl (by kernel_rfl) (by kernel_rfl) (fun _ _ _ h => h) (by kernel_rfl) ?_ ?_
      rotate_left
      · (intro wS hSw K hK; have hF := HC.out wS (After.trans (After.drew (After.refl _)) hSw); go_simp; go_at_call 41; refine (eqSd _ _ _).mono ?_; rintro e wc ⟨rfl, hbc⟩; exact hK.out _ hbc)
      try simp only [Act.put, List.getElem_toArray, List.getElem_cons_succ, List.getElem_cons_zero, List.setIfInBounds_toArray, List.set_cons_zero, List.set_cons_succ]
      refine Script.load (i := 9) (v := ?_) rfl (by kernel_rfl) (by kernel_rfl) (fun _ _ _ h => h) (by kernel_rfl) ?_ ?_
      rotate_left
      · (intro wS hSw; have hF := HC.out wS (After.trans (After.drew (After.refl _)) hSw); go_simp; try with_reducible rfl)
      try simp only [Act.put, List.getElem_toArray, List.getElem_cons_succ, List.getElem_cons_zero, List.setIfInBounds_toArray, List.set_cons_zero, List.set_cons_succ]
      refine Script.done (by kernel_rfl) ?_
      intro wD hD hG
      have hw2 : Hid (Below w.heap.size w wD) := hw.out.trans ((After.trans (After.drew (After.refl wr)) hD).mono hw.out.size)
      clear hD HC hw
      go_wp2_with fail
      go_roundw
      case rel => exact ⟨k + 1, by omega, by go_num, hw2⟩
      case measure => simp [intOf]; omega
    · go_wp2
      go_ret
      exact ⟨rfl, hw.out⟩
end Go.Proofs.Ytoginbmflomjeaa
