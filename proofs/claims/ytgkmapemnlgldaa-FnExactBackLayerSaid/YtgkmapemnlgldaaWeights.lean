/- Slices of ints that came in as arguments, or lie anywhere in memory: what can be read of them; toIntS of the exact laws. Of at most 1048576 ints. -/
import Derived.Test.YtgkmapemnlgldaaLinesAll
import Derived.Test.YtgkmapemnlgldaaBoards
import Derived.OwnWalk
namespace Go.Proofs.Ytgkmapemnlgldaa
open Go.RowKit
set_option linter.unusedVariables false
set_option linter.unusedSimpArgs false
/-- A slice of ints that can be read: the ints that it holds. -/
def IntsAt (w : World) (a : Option Addr) (len : Nat) (xs : List Int) : Prop :=
  xs.length = len ∧ (len = 0 ∨ ∃ b off, a = some ⟨b, off, none⟩ ∧ b < w.heap.size ∧ ∀ (k : Nat) x, xs[k]? = some x → w.cell? ⟨b, off + k, none⟩ = some (.int .i64 x))
theorem IntsAt.later {w w' : World} {a : Option Addr} {len : Nat} {xs : List Int} (h : IntsAt w a len xs) (hb : Below w.heap.size w w') : IntsAt w' a len xs := by
  refine ⟨h.1, h.2.imp id ?_⟩
  rintro ⟨b, off, rfl, hlt, hc⟩
  exact ⟨b, off, rfl, Nat.lt_of_lt_of_le hlt hb.size, fun k x hk => (hb.cell hlt).trans (hc k x hk)⟩
/-- One of its cells. -/
theorem IntsAt.cell {w : World} {a : Option Addr} {len : Nat} {xs : List Int} (h : IntsAt w a len xs) {k : Nat} (hk : k < len) : ∃ b off, a = some ⟨b, off, none⟩ ∧ b < w.heap.size ∧ ∀ (k : Nat) x, xs[k]? = some x → w.cell? ⟨b, off + k, none⟩ = some (.int .i64 x) := by
  rcases h.2 with h0 | h0
  · omega
  · exact h0
theorem ints_own {w : World} {B n c : Nat} {T : TypeId} {a : Option Addr} {xs : List Int} (h : w.ownsRow B T 1 (.slice a n c) n (iv xs)) (hn : xs.length = n) : IntsAt w a n xs := by
  refine ⟨hn, ?_⟩
  rcases h.2 with ⟨h1, h2⟩ | ⟨g, cap, cur, h1, hb, hg, -⟩
  · exact .inl h2
  · right
    injection h1 with h1 h2 h3
    subst h1 h3
    refine ⟨g, 0, rfl, (h.lt g rfl).2, fun k x hk => ?_⟩
    have hkn : k < n := by rw [← hn]; exact (List.getElem?_eq_some_iff.1 hk).1
    rw [Nat.zero_add]
    exact own_cell h k hkn _ (by simp [iv, hk])
theorem int_form {w : World} {b n : Nat} {e : TypeId} {v : Value} {xs : List Value} (h : w.ownsRow b e 1 v n xs) : ∃ a c, v = .slice a n c := by
  rcases Go.Joins.ownsRow_forms h with ⟨rfl, rfl⟩ | ⟨g, cap, rfl⟩
  · exact ⟨_, _, rfl⟩
  · exact ⟨_, _, rfl⟩
/-- What the frame of a law tells. -/
theorem ints_row {w : World} {a : Option Addr} {len cap : Nat} {zs : List Int} (h : (a = none ∧ len = 0 ∧ cap = 0 ∧ zs = []) ∨ ∃ x, a = some x ∧ len ≤ cap ∧ cap ≤ maxLen ∧ zs.length = cap ∧ (∀ i, i < zs.length → w.cell? (x.add i) = some (.int .i64 (zs.getD i 0))) ∧ ∀ n ∈ zs, (Lit.int .i64 n).wf = true) :
    IntsAt w a len (zs.take len) ∧ len ≤ maxLen := by
  rcases h with ⟨rfl, rfl, rfl, rfl⟩ | ⟨x, rfl, hl, hm, hz, hc, -⟩
  · exact ⟨⟨rfl, .inl rfl⟩, Nat.zero_le _⟩
  · refine ⟨⟨by rw [List.length_take, hz]; omega, ?_⟩, Nat.le_trans hl hm⟩
    by_cases h0 : len = 0
    · exact .inl h0
    · right
      obtain ⟨b, off, spot⟩ := x
      have hc0 := hc 0 (by omega)
      have hspot : spot = none := by simpa [Addr.add] using World.cell?_spot hc0
      subst hspot
      refine ⟨b, off, rfl, World.block_lt_of_cell? w _ (by simpa [Addr.add] using hc0), fun k y hk => ?_⟩
      have hkl : k < len := by have := (List.getElem?_eq_some_iff.1 hk).1; rw [List.length_take] at this; omega
      have hck := hc k (by omega)
      have e : (⟨b, off, none⟩ : Addr).add k = ⟨b, off + k, none⟩ := by unfold Addr.add; split <;> simp_all
      rw [e] at hck
      rw [List.getElem?_take, if_pos hkl] at hk
      rw [hck, List.getD, hk]; rfl
theorem iput (l : List Value) (ys : List Int) (x : Int) {k n : Nat} (hy : ys.length = k) (hl : l.length = n) (hk : k < n) :
    (iv ys ++ l.drop k).set k (.int .i64 x) = iv (ys ++ [x]) ++ l.drop (k + 1) := by
  rw [List.drop_eq_getElem_cons (show k < l.length by omega), iv_snoc]
  have hL : (iv ys).length = k := by rw [iv_len, hy]
  generalize iv ys = L at *
  generalize l.drop (k + 1) = r
  subst hL
  simp [List.set_append_right]
set_option maxRecDepth 100000 in
theorem toInts_none {a : Option Addr} {cap : Nat} (w : World) : Calls Try.prog 27 #[.slice a 0 cap] w (OwnIv [] w) := by
  obtain ⟨i0, hi, hz0, hz1, hz2⟩ : ∃ i, Try.prog.info? 3 = some i ∧ i.zero = some (.int .i64 0) ∧ i.size = 1 ∧ i.bytes = 8 := ⟨_, by rfl, by rfl, by rfl, by rfl⟩
  obtain ⟨w3, hmk, hrow, hg3⟩ := run_make_full (P := Try.prog) w w.heap.size 30 3 i0 (.int .i64 0) 1 Try.underlying30 hi hz0 hz1 .i64 .i64 0 (by rw [hz2]; omega) (by unfold maxLen; omega) (Nat.le_refl _)
  have HR : Hid (OwnIv [] w (.returned (.slice (some ⟨w.heap.size, 0, none⟩) 0 0)) w3) := ⟨_, rfl, by simpa [madeCells, iv] using hrow, ⟨hg3.os, hg3.tape, hg3.output, hg3.size, fun j hj => hg3.block j hj (by simp)⟩⟩
  have hmk0 : (Instr.makeSlice 30 (.int .i64 0) (.int .i64 0)).run Try.prog w = .ok (.slice (some ⟨w.heap.size, 0, none⟩) 0 0) w3 := hmk
  clear hrow hg3 hmk
  go_enter Try.func27, Try.ntmps27
  go_wp2_with fail
  go_loopw [4] (fun i wr => i = .int .i64 0 ∧ wr = w3) (fun _ _ => 0)
  case atStart => exact ⟨rfl, rfl⟩
  case round =>
    obtain ⟨rfl, rfl⟩ := hrel
    go_wp2_with fail
    go_ret
    exact HR.out
set_option maxHeartbeats 1000000 in
set_option maxRecDepth 100000 in
theorem toInts_some {b off n cap : Nat} {xs : List Int} (w : World) (hn : n ≤ 1048576) (hl : xs.length = n) (hb : b < w.heap.size)
    (hc : ∀ (k : Nat) x, xs[k]? = some x → w.cell? ⟨b, off + k, none⟩ = some (.int .i64 x)) :
    Calls Try.prog 27 #[.slice (some ⟨b, off, none⟩) n cap] w (OwnIv xs w) := by
  obtain ⟨i0, hi, hz0, hz1, hz2⟩ : ∃ i, Try.prog.info? 3 = some i ∧ i.zero = some (.int .i64 0) ∧ i.size = 1 ∧ i.bytes = 8 := ⟨_, by rfl, by rfl, by rfl, by rfl⟩
  obtain ⟨w3, hmk, hrow, hg3⟩ := run_make_full (P := Try.prog) w w.heap.size 30 3 i0 (.int .i64 0) 1 Try.underlying30 hi hz0 hz1 .i64 .i64 n (by rw [hz2]; omega) (by unfold maxLen; omega) (Nat.le_refl _)
  have HB3 : Hid (Below w.heap.size w w3) := ⟨hg3.os, hg3.tape, hg3.output, hg3.size, fun j hj => hg3.block j hj (by simp)⟩
  have HN := Lib.hid hl
  have HC := Lib.hid hc
  obtain ⟨L, hL⟩ : ∃ L, (madeCells (Value.int .i64 0).cells (n * 1)).toList = L := ⟨_, rfl⟩
  have HL : Hid (L.length = n) := by unfold Hid; rw [← hL]; simp [madeCells]
  rw [hL] at hrow
  have HR := Lib.hid hrow
  clear hrow hg3 hl hc hL
  obtain ⟨q, hq⟩ : ∃ q, w.heap.size = q := ⟨_, rfl⟩
  rw [hq] at hmk HB3 HR hb
  have HQ := Lib.hid hq
  clear hq
  go_enter Try.func27, Try.ntmps27
  go_wp2_with fail
  clear hmk
  go_loopw [4] (fun i wr => ∃ k : Nat, k ≤ n ∧ i = .int .i64 k ∧ Hid (wr.ownsRow q 3 1 (.slice (some ⟨q, 0, none⟩) n n) n (iv (xs.take k) ++ L.drop k)) ∧ Hid (Below q w wr)) (fun i _ => n - (intOf i).toNat)
  case atStart => exact ⟨0, Nat.zero_le _, rfl, HR, HB3⟩
  case round =>
    obtain ⟨k, hk, rfl, HO, HW⟩ := hrel
    by_cases hlt : k < n
    · have h0 : (0 : Int) ≤ (k : Int) := by omega
      have h1 : (k : Int) < (n : Int) := by omega
      obtain ⟨x, hx⟩ : ∃ l, xs[k]? = some l := ⟨_, List.getElem?_eq_getElem (by rw [HN.out]; exact hlt)⟩
      have c0 := (HW.out.cell hb).trans (HC.out k _ hx)
      have HS := Lib.hid (take_one hx)
      have HT : Hid ((xs.take k).length = k) := by unfold Hid; rw [List.length_take, HN.out]; omega
      clear hx
      have hqs : q ≤ wr.heap.size := by rw [← HQ.out]; exact HW.out.size
      have f0 := HO.out.frozenAt k
      obtain ⟨v0, d0⟩ : ∃ v, wr.cell? ⟨q, k, none⟩ = some v := by
        rw [HO.out.cellAt k (by omega)]
        exact ⟨_, List.getElem?_eq_getElem (by have := HO.out.1; omega)⟩
      have hst := HO.out.stored k (.int .i64 x)
      have hpl := iput L (xs.take k) x HT.out HL.out hlt
      rw [hpl, ← HS.out] at hst
      have HST := Lib.hid hst.1
      have HWT := Lib.hid (HW.out.grown hst.2 hqs (fun j hj => by cases hj; exact Nat.le_refl _))
      clear hst hpl HO HW hqs
      go_wp2_with fail
      go_roundw
      case rel => exact ⟨k + 1, by omega, by go_num, HST, HWT⟩
      case measure => simp [intOf]; omega
    · obtain rfl : k = n := by omega
      have hp : Hid (OwnIv xs w (.returned (.slice (some ⟨q, 0, none⟩) k k)) wr) := by
        refine ⟨_, rfl, ?_, ?_⟩
        · have := HO.out
          rw [List.drop_of_length_le (by rw [HL.out]; exact Nat.le_refl _), List.append_nil, List.take_of_length_le (by rw [HN.out]; exact Nat.le_refl _)] at this
          rw [HN.out, HQ.out]; exact this
        · rw [HQ.out]; exact HW.out
      clear HO HW
      go_wp2_with fail
      go_ret
      exact hp.out
/-- toIntS: the ints in new memory. -/
theorem toInts {a : Option Addr} {len cap : Nat} {xs : List Int} (w : World) (hn : len ≤ 1048576) (h : IntsAt w a len xs) : Calls Try.prog 27 #[.slice a len cap] w (OwnIv xs w) := by
  by_cases h0 : len = 0
  · subst h0
    obtain rfl : xs = [] := List.eq_nil_of_length_eq_zero h.1
    exact toInts_none w
  · rcases h.2 with h1 | ⟨b, off, rfl, hb, hc⟩
    · exact absurd h1 h0
    · exact toInts_some w hn h.1 hb hc
end Go.Proofs.Ytgkmapemnlgldaa
