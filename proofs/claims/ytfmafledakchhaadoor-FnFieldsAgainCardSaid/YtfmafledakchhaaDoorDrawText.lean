/- The drawn texts: l01Text gives a text of at most the length that is asked for, l01Long one of just that length; both leave all that was there as it was, but for the cursor. -/
import Derived.Test.YtfmafledakchhaaDoorProg
import Derived.Test.YtfmafledakchhaaDoorBase
import Derived.Test.YtfmafledakchhaaDoorDraw
import Derived.WalkKit
import Derived.WalkSpells
import Derived.Lib.Hide
import Derived.IntWalk
namespace Go.Proofs.YtfmafledakchhaaDoor
open Go.RowKit
theorem infoU8t : (Tryd.prog.info? 5).map (fun i => (i.zero, i.size, i.bytes)) = some (some (.int .u8 0), 1, 1) := by kernel_rfl
theorem Dr.lt {w0 w : World} {a : Option Addr} {len cap p : Nat} (h : Dr w0 a len cap p w) : p < w.heap.size := by
  obtain ⟨_, _, i, x, _, hc⟩ := h
  rcases Nat.lt_or_ge p w.heap.size with h | h
  · exact h
  · rw [Array.getElem?_eq_none h] at hc; cases hc
/-- The cursor is kept where another block is written. -/
theorem Dr.grown {w0 w w' : World} {a : Option Addr} {len cap p : Nat} {r : Option Nat} (h : Dr w0 a len cap p w) (hg : w.grownBy w' r) (hr : r ≠ some p) (hr2 : ∀ k, r = some k → w0.heap.size ≤ k) : Dr w0 a len cap p w' := by
  have hlt := h.lt
  obtain ⟨hp, h1, i, x, hi, hc⟩ := h
  exact ⟨hp, h1.grown hg h1.size hr2, i, x, hi, (hg.block p hlt (fun e => hr e.symm)).trans hc⟩
def DrawText (w0 : World) (a : Option Addr) (len cap p n : Nat) (e : Ending) (w' : World) : Prop :=
  ∃ t : ByteArray, t.size ≤ n ∧ e = .returned (.string t) ∧ Dr w0 a len cap p w'
set_option maxHeartbeats 1000000 in
set_option maxRecDepth 100000 in
theorem text {w0 : World} {a : Option Addr} {len cap p : Nat} (hcode : CodeAt w0 a len) (n : Nat) (w : World) (hd : Dr w0 a len cap p w) (hn : n ≤ 5000) :
    Calls Tryd.prog 25 #[.pointer (some ⟨p, 0, none⟩), .int .i64 n] w (DrawText w0 a len cap p n) := by
  obtain ⟨i0, hi, hz0, hz1, hz2⟩ := info_parts infoU8t
  have HB := Lib.hid (fun w hd => byte (cap := cap) (p := p) hcode w hd)
  have hpw := hd.lt
  have hw0 := hd.2.1.size
  have HD := Lib.hid hd
  clear hd hcode
  have hf : ¬ (5000 : Int) < (n : Int) := by omega
  have hf2 : decide ((5000 : Int) < (n : Int)) = false := decide_eq_false hf
  go_enter Tryd.func25, Tryd.ntmps25
  go_wp2_with fail
  go_loopw [5, 6] (fun v i wr => ∃ (k : Nat) (xs : List Int), k ≤ n ∧ i = .int .i64 k ∧ Hid (wr.ownsRow w.heap.size 5 1 v k (xs.map (Value.int .u8))) ∧ w.heap.size ≤ wr.heap.size ∧ Hid (Dr w0 a len cap p wr)) (fun _ i _ => n - (intOf i).toNat)
  case atStart =>
    refine ⟨0, [], Nat.zero_le _, rfl, World.ownsRow_made w #[] 0 (Nat.le_refl _) (Nat.zero_le _) rfl, by simp, Dr.below HD.out ((Below.refl w.heap.size w).alloc (Nat.le_refl _) _)⟩
  case round =>
    obtain ⟨k, xs, hk, rfl, HO, hbz, HDr⟩ := hrel
    by_cases hlt : k < n
    · have h0 : (0 : Int) ≤ (k : Int) := by omega
      have h1 : (k : Int) < (n : Int) := by omega
      go_wp2_with fail
      refine (HB.out _ HDr.out).mono ?_
      rintro e w1 ⟨x, hx, rfl, hd1, hg1⟩
      have hxi : (x : Int) ≤ 255 := by omega
      have ho1 : w1.ownsRow w.heap.size 5 1 u5 k (xs.map (Value.int .u8)) := HO.out.kept hg1 (by
        cases hv : u5.ownBlock with
        | none => exact .inl rfl
        | some g => right; intro e; cases e; have := (HO.out.lt p hv).1; omega)
      have HO1 := Lib.hid ho1; clear ho1
      have HD1 := Lib.hid hd1; clear hd1
      have hbz1 : w.heap.size ≤ w1.heap.size := Nat.le_trans hbz hg1.size
      clear hg1
      go_wp2_with (at_builtin; refine wpList_append_one rfl (.tmp 15) (.tmp 19) 22 rfl w.heap.size 5 i0 (.int .u8 0) 1 Tryd.underlying22 hi hz0 hz1 hz2 rfl (by decide) _ _ _ rfl HO1.out rfl rfl (by omega) hbz1 ?_; intro g' cap' w2 hown' hgrow hb2)
      have hO2 : Hid (w2.ownsRow w.heap.size 5 1 (.slice (some ⟨g', 0, none⟩) (k + 1) cap') (k + 1) ((xs ++ [(x : Int)]).map (Value.int .u8))) := by unfold Hid; simpa using hown'
      have hD2 : Hid (Dr w0 a len cap p w2) := by
        unfold Hid
        refine (Dr.below HD1.out ((Below.refl w1.heap.size w1).alloc (Nat.le_refl _) _)).grown hgrow ?_ ?_
        · intro e; have := (HO1.out.lt p e).1; omega
        · intro g e; have := (HO1.out.lt g e).1; omega
      have hbz2 : w.heap.size ≤ w2.heap.size := Nat.le_trans hbz1 hb2.size
      clear hown' hgrow hb2
      go_wp2_with fail
      go_roundw
      case rel => exact ⟨k + 1, xs ++ [(x : Int)], by omega, by go_num, hO2, hbz2, hD2⟩
      case measure => simp [intOf]; omega
    · obtain rfl : k = n := by omega
      have hcv := convert_own (P := Tryd.prog) wr 22 5 9 Tryd.underlying22 Tryd.underlying5 Tryd.underlying9 HO.out
      have hl : Hid ((strOfNums xs).size ≤ k) := by
        unfold Hid
        rw [strOfNums_size]
        have := HO.out.1
        simp at this; omega
      go_wp2_with fail
      go_ret
      exact ⟨_, hl.out, rfl, HDr.out⟩
def LongPost (n : Nat) (w : World) (e : Ending) (w' : World) : Prop := ∃ t : ByteArray, t.size = n ∧ e = .returned (.string t) ∧ Below w.heap.size w w'
set_option maxHeartbeats 1000000 in
set_option maxRecDepth 100000 in
theorem long (n : Nat) (x : Int) (w : World) (hn : n ≤ 1000000) : Calls Tryd.prog 23 #[.int .i64 n, .int .u8 x] w (LongPost n w) := by
  obtain ⟨i0, hi, hz0, hz1, hz2⟩ := info_parts infoU8t
  go_enter Tryd.func23, Tryd.ntmps23
  go_wp2_with (at_make; refine wpList_make_full _ rfl _ _ 22 rfl w.heap.size 5 i0 (.int .u8 0) 1 Tryd.underlying22 hi hz0 hz1 _ _ _ _ n rfl rfl rfl rfl ?b2 ?b3 (Nat.le_refl _) ?_)
  case b2 => rw [hz2]; omega
  case b3 => unfold maxLen; omega
  intro w1 hown0 hgrow0
  have hO : Hid (w1.ownsRow w.heap.size 5 1 (.slice (some ⟨w.heap.size, 0, none⟩) n n) n ((List.replicate n (0 : Int)).map (Value.int .u8))) := by
    unfold Hid
    rw [List.map_replicate]
    have e : (madeCells #[Value.int .u8 0] n).toList = List.replicate n (Value.int .u8 0) := toList_madeCells_one _ n
    rw [← e]; exact hown0
  have hb1 : Below w.heap.size w w1 := (Below.refl _ _).grown hgrow0 (Nat.le_refl _) (fun k h => by cases h)
  clear hown0 hgrow0
  go_wp2_with fail
  go_loopw [6] (fun i wr => ∃ (k : Nat) (xs : List Int), k ≤ n ∧ i = .int .i64 k ∧ Hid (wr.ownsRow w.heap.size 5 1 (.slice (some ⟨w.heap.size, 0, none⟩) n n) n (xs.map (Value.int .u8))) ∧ Below w.heap.size w wr) (fun i _ => n - (intOf i).toNat)
  case atStart => exact ⟨0, _, Nat.zero_le _, rfl, hO, hb1⟩
  case round =>
    obtain ⟨k, xs, hk, rfl, HO, hb⟩ := hrel
    by_cases hlt : k < n
    · have h0 : (0 : Int) ≤ (k : Int) := by omega
      have h1 : (k : Int) < (n : Int) := by omega
      have hst := HO.out.stored k (.int .u8 x)
      have hcell : ∃ v, wr.cell? ⟨w.heap.size, k, none⟩ = some v := by
        rw [HO.out.cellAt k (by omega)]
        exact ⟨_, List.getElem?_eq_getElem (by have := HO.out.1; omega)⟩
      obtain ⟨vc, hcell⟩ := hcell
      have hfz := HO.out.frozenAt k
      have hO' : Hid ((wr.setCell ⟨w.heap.size, k, none⟩ (.int .u8 x)).ownsRow w.heap.size 5 1 (.slice (some ⟨w.heap.size, 0, none⟩) n n) n ((xs.set k x).map (Value.int .u8))) := by
        unfold Hid; rw [List.map_set]; exact hst.1
      have hb' : Below w.heap.size w (wr.setCell ⟨w.heap.size, k, none⟩ (.int .u8 x)) := hb.setCell (Nat.le_refl _) _
      clear hst
      go_wp2_with fail
      go_roundw
      case rel => exact ⟨k + 1, xs.set k x, by omega, by go_num, hO', hb'⟩
      case measure => simp [intOf]; omega
    · obtain rfl : k = n := by omega
      have hcv := convert_own (P := Tryd.prog) wr 22 5 9 Tryd.underlying22 Tryd.underlying5 Tryd.underlying9 HO.out
      have hl : Hid ((strOfNums xs).size = k) := by
        unfold Hid
        rw [strOfNums_size]
        have := HO.out.1
        simp at this; omega
      go_wp2_with fail
      go_ret
      exact ⟨_, hl.out, rfl, hb⟩
def DrawEncPost (w : World) (e : Ending) (w' : World) : Prop := ∃ t : ByteArray, t.size ≤ 20001 ∧ e = .returned (.string t) ∧ Below w.heap.size w w'
set_option maxHeartbeats 1000000 in
set_option maxRecDepth 100000 in
theorem drawEnc {a : Option Addr} {len cap : Nat} (w : World) (hcode : CodeAt w a len) :
    Calls Tryd.prog 9 #[.slice a len cap] w (DrawEncPost w) := by
  have HCO := Lib.hid hcode
  clear hcode
  go_enter Tryd.func9, Tryd.ntmps9
  go_wp2_with fail
  refine (curNew w HCO.out).mono ?_
  rintro e w1 ⟨p, rfl, hd1⟩
  have HD1 := Lib.hid hd1; clear hd1
  go_wp2_with fail
  refine (once HCO.out 60 _ HD1.out (by omega) (by omega)).mono ?_
  rintro e w2 ⟨x, rfl, hd2, hg2⟩
  have HD2 := Lib.hid hd2; clear hd2 hg2
  cases x with
  | true =>
    go_wp2_with fail
    refine (below HCO.out 2 _ HD2.out (by omega) (by omega)).mono ?_
    rintro e w3 ⟨n, n0, rfl, hd3, hg3⟩
    have HD3 := Lib.hid hd3; clear hd3 hg3
    have hl := long (20000 + n) 200 w3 (by omega)
    rw [show ((20000 + n : Nat) : Int) = 20000 + (n : Int) by omega] at hl
    have HL := Lib.hid hl; clear hl
    go_wp2_with fail
    refine HL.out.mono ?_
    rintro e w4 ⟨t, ht, rfl, hb⟩
    have hb4 := HD3.out.2.1.trans (hb.mono HD3.out.2.1.size)
    have HT : Hid (t.size ≤ 20001) := by unfold Hid; omega
    clear ht hb
    go_wp2_with fail
    go_ret
    exact ⟨t, HT.out, rfl, hb4⟩
  | false =>
    go_wp2_with fail
    refine (below HCO.out 30 _ HD2.out (by omega) (by omega)).mono ?_
    rintro e w3 ⟨n, n0, rfl, hd3, hg3⟩
    have HD3 := Lib.hid hd3; clear hd3 hg3
    go_wp2_with fail
    refine (text HCO.out n _ HD3.out (by omega)).mono ?_
    rintro e w4 ⟨t, ht, rfl, hd4⟩
    have HD4 := Lib.hid hd4; clear hd4
    have HT : Hid (t.size ≤ 20001) := by unfold Hid; omega
    clear ht
    go_wp2_with fail
    go_ret
    exact ⟨t, HT.out, rfl, HD4.out.2.1⟩
end Go.Proofs.YtfmafledakchhaaDoor
