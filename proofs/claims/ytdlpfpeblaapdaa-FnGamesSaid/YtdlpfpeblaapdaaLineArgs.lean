/- Slices of lines that come in as arguments: what the frame tells of them; szLineS and toLineS of the exact laws; a line stored into an owned list. Of at most 1048576 lines. -/
import Derived.Test.YtdlpfpeblaapdaaLineRows
import Derived.Test.YtdlpfpeblaapdaaLinesE
import Derived.Test.YtdlpfpeblaapdaaRect
import Derived.OwnWalk
import Derived.Deep.Slices
import Derived.Deep.Fields
namespace Go.Proofs.Ytdlpfpeblaapdaa
open Go.RowKit
set_option linter.unusedVariables false
set_option linter.unusedSimpArgs false
/-- A slice of lines that came in: the lines that it holds. -/
def LinesAt (w : World) (a : Option Addr) (len : Nat) (xs : List Ln) : Prop :=
  xs.length = len ∧ (len = 0 ∨ ∃ b off, a = some ⟨b, off, none⟩ ∧ b < w.heap.size ∧ ∀ k l, xs[k]? = some l → w.cell? ⟨b, off + k * 3, none⟩ = some (.int .i64 l.1) ∧ w.cell? ⟨b, off + k * 3 + 1, none⟩ = some (.int .i64 l.2.1) ∧ w.cell? ⟨b, off + k * 3 + 2, none⟩ = some (.int .i64 l.2.2))
theorem LinesAt.later {w w' : World} {a : Option Addr} {len : Nat} {xs : List Ln} (h : LinesAt w a len xs) (hb : Below w.heap.size w w') : LinesAt w' a len xs := by
  refine ⟨h.1, h.2.imp id ?_⟩
  rintro ⟨b, off, rfl, hlt, hc⟩
  refine ⟨b, off, rfl, Nat.lt_of_lt_of_le hlt hb.size, fun k l hk => ?_⟩
  obtain ⟨h1, h2, h3⟩ := hc k l hk
  exact ⟨(hb.cell hlt).trans h1, (hb.cell hlt).trans h2, (hb.cell hlt).trans h3⟩
theorem LinesAt.same {w w' : World} {a : Option Addr} {len B : Nat} {xs : List Ln} (h : LinesAt w a len xs) (hb : Below B w w') (hB : w.heap.size ≤ B) : LinesAt w' a len xs := h.later (hb.mono hB)
open Go.Deep in
theorem lines_of {H : Type} {enc : TypeId × Value → H} {P : Program} {w : World} {base : Nat} {spare : Nat → Bool} {held : Bool} {t e : TypeId} {f0 f1 f2 : Field} {a : Option Addr} {len cap : Nat} {d : DataW H} {p : List MemPlace}
    (ht : P.underlying t = some (.slice e)) (he : P.underlying e = some (.struct #[f0, f1, f2])) (ce : P.cellsOf e = 3) (hone : Go.Deep.oneCellFields P #[f0, f1, f2] = true)
    (i0 : P.underlying f0.type = some (.int .i64)) (i1 : P.underlying f1.type = some (.int .i64)) (i2 : P.underlying f2.type = some (.int .i64))
    (h0 : DataW.Trod enc P w base spare held t (.slice a len cap) d p) : ∃ xs, LinesAt w a len xs ∧ len ≤ maxLen := by
  obtain ⟨fuel, h⟩ := h0
  rcases open_slice ht h with ⟨hcs, _⟩ | ⟨a', len', cap', m, n, D, Pl, hcs, hb, hl, hm, hmm, _, hx⟩
  · simp [Value.cells] at hcs
    obtain ⟨rfl, rfl, rfl⟩ := hcs
    exact ⟨[], ⟨rfl, .inl rfl⟩, Nat.zero_le _⟩
  · simp [Value.cells] at hcs
    obtain ⟨rfl, rfl, rfl⟩ := hcs
    have hlm : len ≤ m := by rw [hmm]; split <;> omega
    obtain ⟨o0, k0⟩ := Go.Deep.hone_of hone 0 f0 rfl
    obtain ⟨o1, k1⟩ := Go.Deep.hone_of hone 1 f1 rfl
    obtain ⟨o2, k2⟩ := Go.Deep.hone_of hone 2 f2 rfl
    have each : ∀ i, i < len → ∃ q : Ln, w.cell? (a'.add (i * 3)) = some (.int .i64 q.1) ∧ w.cell? (a'.add (i * 3 + 1)) = some (.int .i64 q.2.1) ∧ w.cell? (a'.add (i * 3 + 2)) = some (.int .i64 q.2.2) := by
      intro i hi
      obtain ⟨cs', h1, h2⟩ := hx i (by omega)
      rw [ce] at h1
      obtain ⟨_, hlen, hcell⟩ := World.cells?_some h1
      obtain ⟨xs, k, hk, hxy, _, hxl, hf⟩ := DataW.trod_struct he h2
      match xs, hxl, cs', hlen with
      | [y0, y1, y2], _, [v0, v1, v2], _ =>
        have g0 := hf 0 f0 rfl
        have g1 := hf 1 f1 rfl
        have g2 := hf 2 f2 rfl
        simp [o0, o1, o2, k0, k1, k2] at g0 g1 g2
        have e0 := hcell 0 (by omega)
        have e1 := hcell 1 (by omega)
        have e2 := hcell 2 (by omega)
        rw [add_add] at e0 e1 e2
        obtain ⟨n0, m0, -, -⟩ := DataW.trod_int i0 g0
        obtain ⟨n1, m1, -, -⟩ := DataW.trod_int i1 g1
        obtain ⟨n2, m2, -, -⟩ := DataW.trod_int i2 g2
        simp at m0 m1 m2
        subst m0 m1 m2
        exact ⟨(n0, n1, n2), by simpa using e0, by simpa using e1, by simpa using e2⟩
    obtain ⟨f, hf⟩ := choose_lt each
    refine ⟨(List.range len).map f, ⟨by simp, ?_⟩, Nat.le_trans hl hm⟩
    by_cases hz : len = 0
    · exact .inl hz
    · right
      obtain ⟨b, off, spot⟩ := a'
      have hc := (hf 0 (by omega)).1
      have hspot : spot = none := by simpa [Addr.add] using World.cell?_spot hc
      subst hspot
      have hc0 : w.cell? ⟨b, off, none⟩ = some (.int .i64 (f 0).1) := by simpa [Addr.add] using hc
      refine ⟨b, off, rfl, World.block_lt_of_cell? w _ hc0, fun k l hk => ?_⟩
      have hkl : k < len := by have := (List.getElem?_eq_some_iff.1 hk).1; simpa using this
      obtain rfl : f k = l := by simpa [hkl] using hk
      obtain ⟨h1, h2, h3⟩ := hf k hkl
      have e : ∀ j, (⟨b, off, none⟩ : Addr).add j = ⟨b, off + j, none⟩ := fun j => by unfold Addr.add; split <;> simp_all
      rw [e] at h1 h2 h3
      exact ⟨h1, by rw [Nat.add_assoc]; exact h2, by rw [Nat.add_assoc]; exact h3⟩
theorem put_line (l : List Value) (ys : List Ln) (x : Ln) {k n : Nat} (hy : ys.length = k) (hl : l.length = n * 3) (hk : k < n) :
    (((lv ys ++ l.drop (k * 3)).set (k * 3) (.int .i64 x.1)).set (k * 3 + 1) (.int .i64 x.2.1)).set (k * 3 + 2) (.int .i64 x.2.2) = lv (ys ++ [x]) ++ l.drop ((k + 1) * 3) := by
  obtain ⟨a, b, c, hd⟩ : ∃ a b c, l.drop (k * 3) = a :: b :: c :: l.drop ((k + 1) * 3) := by
    refine ⟨l[k * 3]'(by omega), l[k * 3 + 1]'(by omega), l[k * 3 + 1 + 1]'(by omega), ?_⟩
    rw [List.drop_eq_getElem_cons (show k * 3 < l.length by omega), List.drop_eq_getElem_cons (show k * 3 + 1 < l.length by omega), List.drop_eq_getElem_cons (show k * 3 + 1 + 1 < l.length by omega), show k * 3 + 1 + 1 + 1 = (k + 1) * 3 by omega]
  rw [hd, lv_append, lv_one]
  have hL : (lv ys).length = k * 3 := by rw [lv_length, hy]
  generalize lv ys = L at *
  generalize l.drop ((k + 1) * 3) = r
  rw [← hL]
  simp [lnC, List.set_append_right]
theorem lv_set (ys : List Ln) (k : Nat) (x : Ln) : lv (ys.set k x) = (((lv ys).set (k * 3) (.int .i64 x.1)).set (k * 3 + 1) (.int .i64 x.2.1)).set (k * 3 + 2) (.int .i64 x.2.2) := by
  induction ys generalizing k with
  | nil => rfl
  | cons y ys ih =>
    have e : ∀ (y : Ln) ys, lv (y :: ys) = .int .i64 y.1 :: .int .i64 y.2.1 :: .int .i64 y.2.2 :: lv ys := fun _ _ => rfl
    cases k with
    | zero => rfl
    | succ k =>
      rw [List.set_cons_succ, e, e, ih, show (k + 1) * 3 = k * 3 + 1 + 1 + 1 from by omega]
      simp only [List.set_cons_succ]
theorem sz_is {a : Option Addr} {len cap : Nat} (w : World) (h : len ≤ 1048576) : Calls Try.prog 17 #[.slice a len cap, .int .i64 1048576] w fun e w' => e = .returned (.int .i64 ((1048576 - len : Nat) : Int)) ∧ w = w' := by
  obtain ⟨r, hr⟩ : ∃ r, 1048576 - len = r := ⟨_, rfl⟩
  have h0 : IntKind.i64.wrap ((1048576 : Int) - (len : Int)) = (r : Int) := by rw [show (1048576 : Int) - (len : Int) = (r : Int) by omega]; exact IntWalk.i64_in _ (by omega)
  have h1 : ¬ (r : Int) < 0 := by omega
  rw [hr]
  clear hr
  go_enter Try.func17, Try.ntmps17
  go_wp2_with fail
  go_ret
  exact ⟨rfl, rfl⟩
theorem sz_far {a : Option Addr} {len cap : Nat} (w : World) (h : 1048576 < len) (hm : len ≤ maxLen) : Calls Try.prog 17 #[.slice a len cap, .int .i64 1048576] w fun e w' => e = .returned (.int .i64 (-1)) ∧ w = w' := by
  unfold maxLen at hm
  obtain ⟨r, hr⟩ : ∃ r : Nat, len - 1048576 = r := ⟨_, rfl⟩
  have h0 : IntKind.i64.wrap ((1048576 : Int) - (len : Int)) = -(r : Int) := by rw [show (1048576 : Int) - (len : Int) = -(r : Int) by omega]; exact IntWalk.i64_in _ (by omega)
  have h1 : -(r : Int) < 0 := by omega
  clear hr
  go_enter Try.func17, Try.ntmps17
  go_wp2_with fail
  go_ret
  exact ⟨rfl, rfl⟩
/-- Three cells of an owned list. -/
theorem stored3 {w : World} {b g n c : Nat} {T : TypeId} {L : List Value} (h : w.ownsRow b T 3 (.slice (some ⟨g, 0, none⟩) n c) n L) (j : Nat) (x y z : Value) :
    (((w.setCell ⟨g, j, none⟩ x).setCell ⟨g, j + 1, none⟩ y).setCell ⟨g, j + 2, none⟩ z).ownsRow b T 3 (.slice (some ⟨g, 0, none⟩) n c) n (((L.set j x).set (j + 1) y).set (j + 2) z) ∧
    w.grownBy (((w.setCell ⟨g, j, none⟩ x).setCell ⟨g, j + 1, none⟩ y).setCell ⟨g, j + 2, none⟩ z) (some g) := by
  have h1 := h.stored j x
  have h2 := h1.1.stored (j + 1) y
  have h3 := h2.1.stored (j + 2) z
  exact ⟨h3.1, h1.2.trans (h2.2.trans h3.2)⟩
theorem toLines_none {a : Option Addr} {cap : Nat} (w : World) : Calls Try.prog 20 #[.slice a 0 cap] w (OwnLines [] w) := by
  obtain ⟨i0, hi, hz0, hz1, hz2⟩ : ∃ i, Try.prog.info? 58 = some i ∧ i.zero = some (.agg #[.int .i64 0, .int .i64 0, .int .i64 0]) ∧ i.size = 3 ∧ i.bytes = 24 := ⟨_, by rfl, by rfl, by rfl, by rfl⟩
  obtain ⟨w3, hmk, hrow, hg3⟩ := run_make_full (P := Try.prog) w w.heap.size 26 58 i0 (.agg #[.int .i64 0, .int .i64 0, .int .i64 0]) 3 Try.underlying26 hi hz0 hz1 .i64 .i64 0 (by rw [hz2]; omega) (by unfold maxLen; omega) (Nat.le_refl _)
  have HR : Hid (OwnLines [] w (.returned (.slice (some ⟨w.heap.size, 0, none⟩) 0 0)) w3) := ⟨_, rfl, by simpa [madeCells, lv] using hrow, ⟨hg3.os, hg3.tape, hg3.output, hg3.size, fun j hj => hg3.block j hj (by simp)⟩⟩
  have hmk0 : (Instr.makeSlice 26 (.int .i64 0) (.int .i64 0)).run Try.prog w = .ok (.slice (some ⟨w.heap.size, 0, none⟩) 0 0) w3 := hmk
  clear hrow hg3 hmk
  go_enter Try.func20, Try.ntmps20
  go_wp2_with fail
  go_loopw [4] (fun i wr => i = .int .i64 0 ∧ wr = w3) (fun _ _ => 0)
  case atStart => exact ⟨rfl, rfl⟩
  case round =>
    obtain ⟨rfl, rfl⟩ := hrel
    go_wp2_with fail
    go_ret
    exact HR.out
set_option maxHeartbeats 1000000 in
set_option maxRecDepth 100000 in
theorem toLines_some {b off n cap : Nat} {xs : List Ln} (w : World) (hn : n ≤ 1048576) (h : LinesAt w (some ⟨b, off, none⟩) n xs) (hb : b < w.heap.size)
    (hc : ∀ k l, xs[k]? = some l → w.cell? ⟨b, off + k * 3, none⟩ = some (.int .i64 l.1) ∧ w.cell? ⟨b, off + k * 3 + 1, none⟩ = some (.int .i64 l.2.1) ∧ w.cell? ⟨b, off + k * 3 + 2, none⟩ = some (.int .i64 l.2.2)) :
    Calls Try.prog 20 #[.slice (some ⟨b, off, none⟩) n cap] w (OwnLines xs w) := by
  obtain ⟨i0, hi, hz0, hz1, hz2⟩ : ∃ i, Try.prog.info? 58 = some i ∧ i.zero = some (.agg #[.int .i64 0, .int .i64 0, .int .i64 0]) ∧ i.size = 3 ∧ i.bytes = 24 := ⟨_, by rfl, by rfl, by rfl, by rfl⟩
  obtain ⟨w3, hmk, hrow, hg3⟩ := run_make_full (P := Try.prog) w w.heap.size 26 58 i0 (.agg #[.int .i64 0, .int .i64 0, .int .i64 0]) 3 Try.underlying26 hi hz0 hz1 .i64 .i64 n (by rw [hz2]; omega) (by unfold maxLen; omega) (Nat.le_refl _)
  have HB3 : Hid (Below w.heap.size w w3) := ⟨hg3.os, hg3.tape, hg3.output, hg3.size, fun j hj => hg3.block j hj (by simp)⟩
  have HN := Lib.hid h.1
  have HC := Lib.hid hc
  obtain ⟨L, hL⟩ : ∃ L, (madeCells (Value.agg #[.int .i64 0, .int .i64 0, .int .i64 0]).cells (n * 3)).toList = L := ⟨_, rfl⟩
  have HL : Hid (L.length = n * 3) := by unfold Hid; rw [← hL]; simp [madeCells]
  rw [hL] at hrow
  have HR := Lib.hid hrow
  clear hrow hg3 h hc hL
  obtain ⟨q, hq⟩ : ∃ q, w.heap.size = q := ⟨_, rfl⟩
  rw [hq] at hmk HB3 HR hb
  have HQ := Lib.hid hq
  clear hq
  go_enter Try.func20, Try.ntmps20
  go_wp2_with fail
  clear hmk
  go_loopw [4] (fun i wr => ∃ k : Nat, k ≤ n ∧ i = .int .i64 k ∧ Hid (wr.ownsRow q 58 3 (.slice (some ⟨q, 0, none⟩) n n) n (lv (xs.take k) ++ L.drop (k * 3))) ∧ Hid (Below q w wr)) (fun i _ => n - (intOf i).toNat)
  case atStart => exact ⟨0, Nat.zero_le _, rfl, HR, HB3⟩
  case round =>
    obtain ⟨k, hk, rfl, HO, HW⟩ := hrel
    by_cases hlt : k < n
    · have h0 : (0 : Int) ≤ (k : Int) := by omega
      have h1 : (k : Int) < (n : Int) := by omega
      obtain ⟨⟨f, o, t⟩, hl⟩ : ∃ l, xs[k]? = some l := ⟨_, List.getElem?_eq_getElem (by rw [HN.out]; exact hlt)⟩
      obtain ⟨c0', c1', c2'⟩ := HC.out k _ hl
      have c0 := (HW.out.cell hb).trans c0'
      have c1 := (HW.out.cell hb).trans c1'
      have c2 := (HW.out.cell hb).trans c2'
      have HS := Lib.hid (take_one hl)
      have HT : Hid ((xs.take k).length = k) := by unfold Hid; rw [List.length_take, HN.out]; omega
      clear hl c0' c1' c2'
      go_wp2_with fail
      refine (toLn _ _ _ _).mono ?_
      rintro e w5 ⟨rfl, hb5⟩
      have HO5 := Lib.hid (own_below HO.out hb5)
      have hqs : q ≤ wr.heap.size := by rw [← HQ.out]; exact HW.out.size
      have HW5 := Lib.hid (HW.out.trans (hb5.mono hqs))
      have hqs5 : q ≤ w5.heap.size := by rw [← HQ.out]; exact HW5.out.size
      have f0 := HO5.out.frozenAt (k * 3)
      have f1 := HO5.out.frozenAt (k * 3 + 1)
      have f2 := HO5.out.frozenAt (k * 3 + 2)
      obtain ⟨v0, v1, v2, d0, d1, d2⟩ := own_cells3 HO5.out hlt (by rw [List.length_append, lv_length, HT.out, List.length_drop, HL.out]; omega)
      have hst := stored3 HO5.out (k * 3) (.int .i64 f) (.int .i64 o) (.int .i64 t)
      have hpl := put_line L (xs.take k) (f, o, t) HT.out HL.out hlt
      rw [hpl, ← HS.out] at hst
      have HST := Lib.hid hst.1
      have HWT := Lib.hid (HW5.out.grown hst.2 hqs5 (fun j hj => by cases hj; exact Nat.le_refl _))
      clear hst hpl HO HW HO5 HW5 hb5 c0 c1 c2
      go_wp2_with fail
      go_roundw
      case rel => exact ⟨k + 1, by omega, by go_num, HST, HWT⟩
      case measure => simp [intOf]; omega
    · obtain rfl : k = n := by omega
      have hp : Hid (OwnLines xs w (.returned (.slice (some ⟨q, 0, none⟩) k k)) wr) := by
        refine ⟨_, rfl, ?_, ?_⟩
        · have := HO.out
          rw [List.drop_of_length_le (by rw [HL.out]; exact Nat.le_refl _), List.append_nil, List.take_of_length_le (by rw [HN.out]; exact Nat.le_refl _)] at this
          rw [HN.out, HQ.out]; exact this
        · rw [HQ.out]; exact HW.out
      clear HO HW
      go_wp2_with fail
      go_ret
      exact hp.out
theorem toLines {a : Option Addr} {len cap : Nat} {xs : List Ln} (w : World) (hn : len ≤ 1048576) (h : LinesAt w a len xs) : Calls Try.prog 20 #[.slice a len cap] w (OwnLines xs w) := by
  by_cases h0 : len = 0
  · subst h0
    obtain rfl : xs = [] := List.eq_nil_of_length_eq_zero h.1
    exact toLines_none w
  · rcases h.2 with h1 | ⟨b, off, rfl, hb, hc⟩
    · exact absurd h1 h0
    · exact toLines_some w hn h hb hc
end Go.Proofs.Ytdlpfpeblaapdaa
