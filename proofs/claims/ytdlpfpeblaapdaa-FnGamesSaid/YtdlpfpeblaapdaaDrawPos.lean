/- The drawn positions: l04Some and DrawPosition of the model give a valid board of at most sixteen places and a position of it. Of codes of at most 1048576 bytes. -/
import Derived.Test.YtdlpfpeblaapdaaDrawBoard
import Derived.Test.YtdlpfpeblaapdaaPegs
import Derived.Test.YtdlpfpeblaapdaaScript
namespace Go.Proofs.Ytdlpfpeblaapdaa
open Go.RowKit
set_option linter.unusedSimpArgs false
theorem bits_ne {W H : Int} {N z : Nat} (h : Ok W H N z) : 0 < (bitsOf N z).length := by
  rcases Nat.eq_zero_or_pos (bitsOf N z).length with h0 | h0
  · have e := powSum_all h.zlt
    rw [List.eq_nil_of_length_eq_zero h0] at e
    have := h.z1
    simp [powSum] at e
    omega
  · exact h0
def SomePost (w0 : World) (a : Option Addr) (len cap p z : Nat) (w : World) (e : Ending) (w' : World) : Prop :=
  ∃ r : Nat, Part r z ∧ e = .returned (.int .i64 r) ∧ Dr w0 a len cap p w' ∧ w.grownBy w' (some p)
set_option maxHeartbeats 4000000 in
set_option maxRecDepth 100000 in
theorem somePos {w0 : World} {a : Option Addr} {len cap p N z : Nat} {W H : Int} (hcode : CodeAt w0 a len) (ho : Ok W H N z) (w : World) (hd : Dr w0 a len cap p w) :
    Calls Try.prog 52 #[.pointer (some ⟨p, 0, none⟩), .agg #[.int .i64 W, .int .i64 H, .int .i64 z]] w (SomePost w0 a len cap p z w) := by
  have HCO := Lib.hid hcode
  have HD := Lib.hid hd
  have hpw := Dr.lt hd
  have C1 := Lib.hid (fun w => specHoles ho w)
  have hz := ho.zbig
  have hN := ho.n49
  have HMEM : Hid (∀ k, k < (bitsOf N z).length → ∃ j, (bitsOf N z)[k]? = some j ∧ j < 49 ∧ bit z j = true) := fun k hk => by
    have hm := List.getElem_mem hk
    have := mem_bitsOf.1 hm
    exact ⟨_, List.getElem?_eq_getElem hk, by omega, this.2⟩
  have hn0 := bits_ne ho
  have hnle := bitsOf_le N z
  clear hd hcode ho
  go_enter Try.func52, Try.ntmps52
  go_wp2_with fail
  have hB : Below w.heap.size w (w.alloc (.cells #[.int .i64 W, .int .i64 H, .int .i64 z] 25)) := (Below.refl _ _).alloc (Nat.le_refl _) _
  have B0 := Lib.hid (box_newT 25 W H z w)
  have HD1 := Lib.hid (HD.out.below hB)
  have HG1 := Lib.hid (grown_below hB (some p))
  generalize w.alloc (.cells #[.int .i64 W, .int .i64 H, .int .i64 z] 25) = W1 at *
  obtain ⟨c0, c1, c2, hlt, hbw⟩ := B0.out
  clear hB
  go_wp2_with fail
  refine (C1.out _).mono ?_
  rintro e w1 ⟨v, rfl, hown, hb1⟩
  have HD2 := Lib.hid (HD1.out.below hb1)
  have HG2 := Lib.hid (HG1.out.trans (grown_below hb1 (some p)))
  have HO := Lib.hid hown
  have hW1 := hbw.size
  clear hown hb1 B0 c0 c1 c2 hlt hbw HD1 HG1
  obtain ⟨xs, hxs⟩ : ∃ xs, bitsOf N z = xs := ⟨_, rfl⟩
  rw [hxs] at HO HMEM hn0 hnle
  obtain ⟨n, hn⟩ : ∃ n, xs.length = n := ⟨_, rfl⟩
  rw [hn] at HO HMEM hn0 hnle
  have HN := Lib.hid hn
  clear hxs hn
  obtain ⟨g, gc, rfl⟩ := Go.Joins.ownsRow_form HO.out hn0
  have hgne : (Value.slice (some ⟨g, 0, none⟩) n gc).ownBlock = none ∨ (Value.slice (some ⟨g, 0, none⟩) n gc).ownBlock ≠ some p := by
    right
    have := (HO.out.lt g rfl).1
    intro h
    have : g = p := by simpa [Value.ownBlock] using h
    omega
  have HGN := Lib.hid hgne
  clear hgne
  go_wp2_with fail
  go_loopw [5, 7] (fun s i wr => ∃ (k r : Nat), k ≤ n ∧ i = .int .i64 k ∧ s = .int .i64 r ∧ Hid (Part r z) ∧ r < 562949953421312 ∧ Hid (Dr w0 a len cap p wr) ∧ Hid (w.grownBy wr (some p)) ∧ Hid (wr.ownsRow W1.heap.size 3 1 (.slice (some ⟨g, 0, none⟩) n gc) n (Ints xs))) (fun _ i _ => n - (intOf i).toNat)
  case atStart => exact ⟨0, 0, by omega, rfl, rfl, part_zero z, by omega, HD2, HG2, HO⟩
  case round =>
    obtain ⟨k, r, hk, rfl, rfl, hpart, hr, hd, hg, hown⟩ := hrel
    clear HD2 HG2 HO
    by_cases hkn : k < n
    · have k0 : (0 : Int) ≤ (k : Int) := by omega
      have k1 : (k : Int) < (n : Int) := by omega
      obtain ⟨j, hj, hj49, hbit⟩ := HMEM.out k hkn
      go_wp2_with fail
      refine (below HCO.out 3 _ hd.out (by omega) (by omega)).mono ?_
      rintro e w2 ⟨x, hx, rfl, hd2, hg2⟩
      have hd' := Lib.hid hd2
      have hg' := Lib.hid (hg.out.trans hg2)
      have hown' := Lib.hid (hown.out.kept hg2 HGN.out)
      clear hd2 hg2 hd hg hown
      by_cases hx0 : 0 < x
      · have x0 : (0 : Int) < (x : Int) := by omega
        have hcell : w2.cell? ⟨g, k, none⟩ = some (.int .i64 j) := own_cell hown'.out k hkn _ (by simp [Ints, hj])
        obtain ⟨q, hq, hqn, q1, q2⟩ := pow_nat j hj49
        have hand := or63 (a := r) (b := q) (by omega) (by omega)
        rw [show r ||| q = putB r j by rw [putB, hqn]] at hand
        have hpart' := Lib.hid (part_put hpart.out hbit)
        have hu : putB r j < 562949953421312 := Nat.lt_of_le_of_lt hpart'.out.le hz
        have j0 : (0 : Int) ≤ (j : Int) := by omega
        obtain ⟨u, hhu⟩ : ∃ u, putB r j = u := ⟨_, rfl⟩
        rw [hhu] at hand hu hpart'
        clear hj hbit hqn hhu
        go_wp2_with fail
        go_roundw
        case rel => exact ⟨k + 1, u, by omega, by go_num, rfl, hpart', hu, hd', hg', hown'⟩
        case measure => simp [intOf]; omega
      · have x0 : ¬ (0 : Int) < (x : Int) := by omega
        go_wp2_with fail
        go_roundw
        case rel => exact ⟨k + 1, r, by omega, by go_num, rfl, hpart, hr, hd', hg', hown'⟩
        case measure => simp [intOf]; omega
    · obtain rfl : n = k := by omega
      have hp : Hid (SomePost w0 a len cap p z w (.returned (.int .i64 r)) wr) := ⟨r, hpart.out, rfl, hd.out, hg.out⟩
      clear hd hg hown hpart
      go_wp2_with fail
      go_ret
      exact hp.out
theorem row_lt {w : World} {b : Nat} {o : Obj} (h : w.heap[b]? = some o) : b < w.heap.size := by
  rcases Nat.lt_or_ge b w.heap.size with h' | h'
  · exact h'
  · rw [Array.getElem?_eq_none h'] at h; cases h
theorem row_grown {w w' : World} {p b : Nat} {o : Obj} (h : w.heap[b]? = some o) (hg : w.grownBy w' (some p)) (hne : b ≠ p) : w'.heap[b]? = some o :=
  (hg.block b (row_lt h) (by intro h'; injection h' with h'; exact hne h')).trans h
theorem row_set3_other {w : World} {b c : Nat} {x y z : Value} {o : Obj} (h : w.heap[c]? = some o) (hne : ¬ c = b) : (set3 w b x y z).heap[c]? = some o :=
  (heap_setCell_other _ ⟨b, 2, none⟩ c _ hne).trans ((heap_setCell_other _ ⟨b, 1, none⟩ c _ hne).trans ((heap_setCell_other _ ⟨b, 0, none⟩ c _ hne).trans h))
def DrawPosPost (w : World) (e : Ending) (w' : World) : Prop :=
  ∃ (W H : Int) (N z r : Nat), Ok W H N z ∧ N ≤ 16 ∧ Part r z ∧ e = .returned (.tuple #[bd W H z, .int .i64 r]) ∧ Below w.heap.size w w'
/-- What stands while the position is drawn: the board's block, the result's block, the cursor. -/
def HeldPos (w0 : World) (a : Option Addr) (len cap p b : Nat) (x y z : Int) (w : World) : Prop := Dr w0 a len cap p w ∧ w.heap[b]? = some (.cells #[.int .i64 x, .int .i64 y, .int .i64 z] 25 (0, 0))
theorem closed_held {w0 : World} {a : Option Addr} {len cap p b : Nat} {x y z : Int} : Closed (HeldPos w0 a len cap p b x y z) := fun _ _ h k => ⟨h.1.below k, closed_row b _ _ _ h.2 k⟩
end Go.Proofs.Ytdlpfpeblaapdaa
