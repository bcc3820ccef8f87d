/- DecodeHex of the program and of the model: for every string both return the same text and the same bool (DecPost says which). No condition but the length that every string has. -/
import Derived.Test.YtfmafledakchhaaDoorProg
import Derived.Test.YtfmafledakchhaaDoorBase
import Derived.WalkKit
import Derived.WalkSpells
import Derived.BigQuiet
import Derived.Lib.Hide
import Derived.Lib.Bytealg
import Derived.Lib.Walk
namespace Go.Proofs.YtfmafledakchhaaDoor
open Go.RowKit
theorem infoU8d : (Tryd.prog.info? 5).map (fun i => (i.zero, i.size, i.bytes)) = some (some (.int .u8 0), 1, 1) := by kernel_rfl
def valN (n : Nat) : Int := if 48 ≤ n ∧ n ≤ 57 then n - 48 else if 97 ≤ n ∧ n ≤ 102 then n - 97 + 10 else -1
theorem valN_le (n : Nat) : -1 ≤ valN n ∧ valN n ≤ 15 := by unfold valN; split <;> (try split) <;> omega
theorem index_hex : ∀ n : Nat, n < 256 → Lib.indexByte [48, 49, 50, 51, 52, 53, 54, 55, 56, 57, 97, 98, 99, 100, 101, 102] (UInt8.ofNat n) = valN n := by decide +kernel
set_option maxRecDepth 100000 in
theorem idx32 (s : ByteArray) (c : Int) (w : World) :
    Calls Tryd.prog 35 #[.string s, .int .u8 c] w fun e w' => e = .returned (.int .i64 (Lib.indexByte s.data.toList c.toNat.toUInt8)) ∧ w = w' := by
  go_enter Tryd.func35, Tryd.ntmps35
  go_wp2
  rw [run_callFunc_extern Tryd.func40 (by kernel_rfl) (by kernel_rfl) (by kernel_rfl) (e := Extern.BytealgIndexByte.indexByte) (by kernel_rfl), Lib.run_indexByteString]
  simp only [Result.andThen]
  rw [Oper.upon_value]
  go_wp2
  go_ret
  exact ⟨rfl, rfl⟩
theorem idxHex (c : UInt8) (w : World) :
    Calls Tryd.prog 27 #[.string ⟨#[48, 49, 50, 51, 52, 53, 54, 55, 56, 57, 97, 98, 99, 100, 101, 102]⟩, .int .u8 (c.toNat : Int)] w fun e w' => e = .returned (.int .i64 (valN c.toNat)) ∧ w = w' := by
  have e : Lib.indexByte [48, 49, 50, 51, 52, 53, 54, 55, 56, 57, 97, 98, 99, 100, 101, 102] c = valN c.toNat := by
    have := index_hex c.toNat c.toNat_lt
    rw [← this]; simp
  have E := Lib.hid e; clear e
  go_enter Tryd.func27, Tryd.ntmps27
  go_wp2_with fail
  refine (idx32 _ _ _).mono ?_
  rintro e w' ⟨rfl, rfl⟩
  go_wp2
  go_ret
  exact ⟨ret_int E.out, rfl⟩
def bt (s : ByteArray) (i : Nat) : UInt8 := s.data.toList.getD i 0
theorem bt_eq (s : ByteArray) (i : Nat) (h : i < s.size) : s[i] = bt s i := by
  unfold bt
  rw [List.getD, List.getElem?_eq_getElem (by simpa using h)]; rfl
def goodB (s : ByteArray) (k : Nat) : Bool := decide (0 ≤ valN (bt s (2 * k)).toNat) && decide (0 ≤ valN (bt s (2 * k + 1)).toNat)
def numB (s : ByteArray) (k : Nat) : Int := 16 * valN (bt s (2 * k)).toNat + valN (bt s (2 * k + 1)).toNat
def decOk (s : ByteArray) : Bool := decide (s.size ≤ 40000) && decide (s.size % 2 = 0) && (List.range (s.size / 2)).all (goodB s)
def decNums (s : ByteArray) (k : Nat) : List Int := (List.range k).map (numB s)
theorem decNums_succ (s : ByteArray) (k : Nat) : decNums s (k + 1) = decNums s k ++ [numB s k] := by simp [decNums, List.range_succ]
def DecPost (s : ByteArray) (w : World) (e : Ending) (w' : World) : Prop :=
  (decOk s = true → e = .returned (.tuple #[.string (strOfNums (decNums s (s.size / 2))), .bool true])) ∧ (decOk s = false → e = .returned (.tuple #[.string ⟨#[]⟩, .bool false])) ∧ Below w.heap.size w w'
theorem dec_no (s : ByteArray) (w w' : World) (h : decOk s = false) (hb : Below w.heap.size w w') : DecPost s w (.returned (.tuple #[.string ⟨#[]⟩, .bool false])) w' :=
  ⟨fun h' => (by rw [h] at h'; cases h'), fun _ => rfl, hb⟩
theorem decOk_all (s : ByteArray) (h1 : s.size ≤ 40000) (h2 : s.size % 2 = 0) (h : ∀ j, j < s.size / 2 → goodB s j = true) : decOk s = true := by
  simp [decOk, h1, h2]; exact h
theorem decOk_bad (s : ByteArray) (j : Nat) (hj : j < s.size / 2) (h : goodB s j = false) : decOk s = false := by
  have : (List.range (s.size / 2)).all (goodB s) = false := List.all_eq_false.2 ⟨j, List.mem_range.2 hj, by simp [h]⟩
  unfold decOk
  rw [this, Bool.and_false]

set_option maxRecDepth 100000 in
theorem implDec_no1 (s : ByteArray) (w : World) (hm : s.size ≤ maxLen) (h : s.size % 2 = 1) :
    Calls Tryd.prog 12 #[.string s] w (DecPost s w) := by
  have hp := dec_no s w w (by simp [decOk, show ¬ s.size % 2 = 0 by omega]) (Below.refl _ _)
  have HP := Lib.hid hp; clear hp
  unfold maxLen at hm
  have hd : ((s.size : Int) % 2 != 0) = true := by simp; omega
  clear h
  go_enter Tryd.func12, Tryd.ntmps12
  go_wp2
  go_ret2
  exact HP.out
set_option maxRecDepth 100000 in
theorem implDec_no2 (s : ByteArray) (w : World) (hm : s.size ≤ maxLen) (h1 : 40000 < s.size) (h : s.size % 2 = 0) :
    Calls Tryd.prog 12 #[.string s] w (DecPost s w) := by
  have hp := dec_no s w w (by simp [decOk, show ¬ s.size ≤ 40000 by omega]) (Below.refl _ _)
  have HP := Lib.hid hp; clear hp
  unfold maxLen at hm
  have hf : (40000 : Int) < s.size := by omega
  have hd : ((s.size : Int) % 2 != 0) = false := by simp; omega
  clear h
  go_enter Tryd.func12, Tryd.ntmps12
  go_wp2
  go_ret2
  exact HP.out

set_option maxHeartbeats 1000000 in
set_option maxRecDepth 100000 in
theorem implDec (s : ByteArray) (w : World) (h1 : s.size ≤ 40000) (h2 : s.size % 2 = 0) :
    Calls Tryd.prog 12 #[.string s] w (DecPost s w) := by
  obtain ⟨i0, hi, hz0, hz1, hz2⟩ := info_parts infoU8d
  have hf : ¬ (40000 : Int) < s.size := by omega
  have hd : ((s.size : Int) % 2 != 0) = false := by simp; omega
  have H2 := Lib.hid h2; clear h2
  go_enter Tryd.func12, Tryd.ntmps12
  go_wp2_with (at_make; refine wpList_make_own _ rfl _ _ 22 rfl w.heap.size 5 i0 (.int .u8 0) 1 Tryd.underlying22 hi hz0 hz1 _ _ _ (s.size / 2) rfl rfl (by omega) ?b2 ?b3 (Nat.le_refl _) ?_)
  case b2 => omega
  case b3 => unfold maxLen; omega
  intro w0 hown0 hgrow0
  go_wp2
  go_loopw [4, 5] (fun v i wr => ∃ k : Nat, 2 * k ≤ s.size ∧ i = .int .i64 (2 * (k : Int)) ∧ (∀ j, j < k → goodB s j = true) ∧ wr.ownsRow w.heap.size 5 1 v k ((decNums s k).map (Value.int .u8)) ∧ Below w.heap.size w wr)
    (fun _ i _ => s.size - (intOf i).toNat)
  case atStart => exact ⟨0, Nat.zero_le _, rfl, fun j hj => absurd hj (Nat.not_lt_zero j), hown0, (Below.refl _ _).grown hgrow0 (Nat.le_refl _) (fun k h => by cases h)⟩
  case round =>
    obtain ⟨k, hk, rfl, hgood, hown, hb⟩ := hrel
    have HG := Lib.hid hgood; clear hgood
    by_cases hlt : 2 * k < s.size
    · have hlt1 : 2 * k + 1 < s.size := by have := H2.out; omega
      have hkk : Hid (k < s.size / 2) := by unfold Hid; omega
      have g0 : (0 : Int) ≤ 2 * (k : Int) := by omega
      have g1 : 2 * (k : Int) < (s.size : Int) := by omega
      have g2 : 2 * (k : Int) + 1 < (s.size : Int) := by omega
      have e0 : s[2 * k] = bt s (2 * k) := bt_eq s _ hlt
      have e1 : s[2 * k + 1] = bt s (2 * k + 1) := bt_eq s _ hlt1
      have b0 := valN_le (bt s (2 * k)).toNat
      have b1 := valN_le (bt s (2 * k + 1)).toNat
      have hG : goodB s k = (decide (0 ≤ valN (bt s (2 * k)).toNat) && decide (0 ≤ valN (bt s (2 * k + 1)).toNat)) := rfl
      have hN : numB s k = 16 * valN (bt s (2 * k)).toNat + valN (bt s (2 * k + 1)).toNat := rfl
      have v0 := idxHex (bt s (2 * k))
      have v1 := idxHex (bt s (2 * k + 1))
      generalize valN (bt s (2 * k)).toNat = x0 at b0 hG hN v0
      generalize valN (bt s (2 * k + 1)).toNat = x1 at b1 hG hN v1
      have HG1 := Lib.hid hG; clear hG
      have HN := Lib.hid hN; clear hN
      have V0 := Lib.hid v0; clear v0
      have V1 := Lib.hid v1; clear v1
      obtain ⟨b00, b01⟩ := b0
      obtain ⟨b10, b11⟩ := b1
      by_cases c0 : x0 < 0
      · have hbad : Hid (decOk s = false) := by unfold Hid; exact decOk_bad s k hkk.out (by rw [HG1.out]; simp; omega)
        go_wp2_with fail
        refine (V0.out _).mono ?_
        rintro e w' ⟨rfl, rfl⟩
        go_wp2_with fail
        refine (V1.out _).mono ?_
        rintro e w' ⟨rfl, rfl⟩
        go_wp2_with fail
        go_ret2
        exact dec_no s w _ hbad.out hb
      · by_cases c1 : x1 < 0
        · have hbad : Hid (decOk s = false) := by unfold Hid; exact decOk_bad s k hkk.out (by rw [HG1.out]; simp; omega)
          go_wp2_with fail
          refine (V0.out _).mono ?_
          rintro e w' ⟨rfl, rfl⟩
          go_wp2_with fail
          refine (V1.out _).mono ?_
          rintro e w' ⟨rfl, rfl⟩
          go_wp2_with fail
          go_ret2
          exact dec_no s w _ hbad.out hb
        · have hgk : Hid (∀ j, j < k + 1 → goodB s j = true) := by
            unfold Hid
            intro j hj
            by_cases hjk : j = k
            · subst hjk; rw [HG1.out]; simp; omega
            · exact HG.out j (by omega)
          have hbz := hb.size
          go_wp2_with fail
          refine (V0.out _).mono ?_
          rintro e w' ⟨rfl, rfl⟩
          go_wp2_with fail
          refine (V1.out _).mono ?_
          rintro e w' ⟨rfl, rfl⟩
          go_wp2_with (at_builtin; refine wpList_append_own _ rfl _ _ 22 rfl w.heap.size 5 i0 (.int .u8 0) 1 1 Tryd.underlying22 hi hz0 hz1 hz2 rfl (by decide) _ _ _ rfl (hown.alloc _) ⟨wr.heap.size, 0, none⟩ 1 1 [.int .u8 (16 * x0 + x1)] rfl rfl ?c1 ?c2 ?c3 ?c4 ?c5 ?_)
          case c1 =>
            intro j u hj
            match j, hj with
            | 0, hj => simp at hj; subst hj; simp [Addr.add]
          case c2 => intro u hu; simp at hu; subst hu; rfl
          case c3 => unfold maxLen; omega
          case c4 => omega
          case c5 => simp; omega
          intro v' w1 hown' hgrow _
          have hown2 : w1.ownsRow w.heap.size 5 1 v' (k + 1) ((decNums s (k + 1)).map (Value.int .u8)) := by
            rw [decNums_succ, List.map_append, HN.out]; exact hown'
          have hb1 : Below w.heap.size w w1 := ((hb.alloc (by omega) _).grown hgrow (by simp; omega) (fun g hg => (hown.lt g hg).1))
          clear hown' hgrow hown
          go_wp2
          go_roundw
          case rel => exact ⟨k + 1, by omega, by go_num, hgk.out, hown2, hb1⟩
          case measure => simp [intOf]; omega
    · have ek : k = s.size / 2 := by have := H2.out; omega
      have hcv := convert_own (P := Tryd.prog) wr 22 5 9 Tryd.underlying22 Tryd.underlying5 Tryd.underlying9 hown
      have hpost : Hid (DecPost s w (.returned (.tuple #[.string (strOfNums (decNums s k)), .bool true])) wr) := by
        have hok := decOk_all s h1 H2.out (fun j hj => HG.out j (by omega))
        refine ⟨fun _ => by rw [ek], fun h => ?_, hb⟩
        rw [hok] at h; cases h
      clear ek hb hown
      go_wp2
      go_ret2
      exact hpost.out
end Go.Proofs.YtfmafledakchhaaDoor
