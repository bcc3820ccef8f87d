/- DrawSplitFields gives a line of at most 10000 bytes and leaves all that was there as it was. Of codes of at most 1048576 bytes. -/
import Derived.Test.YtfmafledakchhaaDoorProg
import Derived.Test.YtfmafledakchhaaDoorBase
import Derived.Test.YtfmafledakchhaaDoorDraw
import Derived.Test.YtfmafledakchhaaDoorDrawText
import Derived.Test.YtfmafledakchhaaDoorFormat
import Derived.WalkKit
import Derived.WalkSpells
import Derived.Lib.Hide
namespace Go.Proofs.YtfmafledakchhaaDoor
open Go.RowKit
def PickPost (w0 : World) (a : Option Addr) (len cap p : Nat) (e : Ending) (w' : World) : Prop := ∃ t : ByteArray, t.size ≤ 100 ∧ e = .returned (.string t) ∧ Dr w0 a len cap p w'
set_option maxRecDepth 100000 in
theorem pickStr {w0 : World} {a : Option Addr} {len cap p g n : Nat} (hcode : CodeAt w0 a len) (xs : List ByteArray) (w : World) (hd : Dr w0 a len cap p w) (hn : 0 < n) (hn1 : n ≤ 1000) (hgp : g ≠ p)
    (hsz : ∀ x ∈ xs, x.size ≤ 100) (hxs : xs.length = n) (hcell : ∀ k, k < n → w.cell? ⟨g, k, none⟩ = some (.string (xs.getD k ByteArray.empty))) :
    Calls Tryd.prog 30 #[.pointer (some ⟨p, 0, none⟩), .slice (some ⟨g, 0, none⟩) n n] w (PickPost w0 a len cap p) := by
  have HB := Lib.hid (below hcode (n : Int) w hd (by omega) (by omega))
  have HC := Lib.hid hcell
  have HW := Lib.hid hsz
  have HX := Lib.hid hxs
  have HP := Lib.hid hgp
  clear hd hcode hcell hsz hxs hgp
  go_enter Tryd.func30, Tryd.ntmps30
  go_wp2_with fail
  refine HB.out.mono ?_
  rintro e w1 ⟨x, hx, rfl, hd1, hg1⟩
  have hxn : x < n := by omega
  have hx0 : (0 : Int) ≤ (x : Int) := by omega
  have hc := hg1.cell (HC.out x hxn) (by intro h; exact HP.out (Option.some.inj h))
  have hw := HW.out (xs.getD x ByteArray.empty) (by rw [List.getD, List.getElem?_eq_getElem (by rw [HX.out]; exact hxn)]; exact List.getElem_mem _)
  generalize xs.getD x ByteArray.empty = v at hc hw
  have HD1 := Lib.hid hd1; clear hd1 hg1
  have HV := Lib.hid hw; clear hw
  go_wp2_with fail
  go_ret
  exact ⟨v, HV.out, rfl, HD1.out⟩
def blanks : List ByteArray := [⟨#[32]⟩, ⟨#[32, 32]⟩, ⟨#[9]⟩, ⟨#[10]⟩, ⟨#[127]⟩, ⟨#[233]⟩]
theorem blanks_sz : ∀ x ∈ blanks, x.size ≤ 100 := by decide
theorem blanks_cell (w : World) : ∀ k, k < 6 → (w.alloc (.cells (blanks.map Value.string).toArray 9)).cell? ⟨w.heap.size, k, none⟩ = some (.string (blanks.getD k ByteArray.empty)) := by
  intro k hk
  rw [cell_of_row _ _ k _ _ _ (heap_alloc_new w _)]
  match k, hk with
  | 0, _ | 1, _ | 2, _ | 3, _ | 4, _ | 5, _ => rfl
  | k + 6, hk => omega
def DrawFldPost (w : World) (e : Ending) (w' : World) : Prop := ∃ t : ByteArray, t.size ≤ 100000 ∧ e = .returned (.string t) ∧ Below w.heap.size w w'
set_option maxHeartbeats 4000000 in
set_option maxRecDepth 100000 in
theorem drawFields {a : Option Addr} {len cap : Nat} (w : World) (hcode : CodeAt w a len) :
    Calls Tryd.prog 15 #[.slice a len cap] w (DrawFldPost w) := by
  have HCO := Lib.hid hcode
  clear hcode
  go_enter Tryd.func15, Tryd.ntmps15
  go_wp2_with fail
  refine (curNew w HCO.out).mono ?_
  rintro e w1 ⟨p, rfl, hd1⟩
  have HD1 := Lib.hid hd1; clear hd1
  go_wp2_with fail
  refine (below HCO.out 9 _ HD1.out (by omega) (by omega)).mono ?_
  rintro e w2 ⟨n1, hn1, rfl, hd2, hg2⟩
  have HD2 := Lib.hid hd2; clear hd2 hg2
  go_wp2_with fail
  refine (once HCO.out 15 _ HD2.out (by omega) (by omega)).mono ?_
  rintro e w3 ⟨b, rfl, hd3, hg3⟩
  have HD3 := Lib.hid hd3; clear hd3 hg3
  cases b with
  | true =>
    go_wp2_with fail
    refine (below HCO.out 2 _ HD3.out (by omega) (by omega)).mono ?_
    rintro e w4 ⟨y, hy, rfl, hd4, hg4⟩
    have HDN := Lib.hid hd4; clear hd4 hg4
    obtain ⟨n, hn⟩ : ∃ n : Nat, (24 : Int) + (y : Int) = (n : Int) := ⟨24 + y, by omega⟩
    have HNY := Lib.hid hn
    have hn2 : n ≤ 25 := by omega
    clear hy
    go_wp2_with fail
    go_loopw [5, 6] (fun t i wr => ∃ (k : Nat) (s : ByteArray), k ≤ n ∧ i = .int .i64 k ∧ t = .string s ∧ s.size ≤ 100 * k ∧ Hid (Dr w a len cap p wr)) (fun _ i _ => n - (intOf i).toNat)
    case atStart => exact ⟨0, ⟨#[]⟩, Nat.zero_le _, rfl, rfl, by simp [ByteArray.size], HDN.out⟩
    case round =>
      obtain ⟨k, s, hk, rfl, rfl, hs, HDr⟩ := hrel
      by_cases hlt : k < n
      · have h1 : (k : Int) < (n : Int) := by omega
        have h0 : (0 : Int) ≤ (k : Int) := by omega
        by_cases hk0 : 0 < k
        · have g0 : (0 : Int) < (k : Int) := by omega
          go_wp2_with fail
          refine (below HCO.out 2 _ HDr.out (by omega) (by omega)).mono ?_
          rintro e w6 ⟨x, hx, rfl, hd6, hg6⟩
          have HD6 := Lib.hid hd6; clear hd6 hg6
          go_wp2_with fail
          refine (below HCO.out 3 _ HD6.out (by omega) (by omega)).mono ?_
          rintro e w7 ⟨y, hy, rfl, hd7, hg7⟩
          have HD7 := Lib.hid hd7; clear hd7 hg7
          obtain ⟨z, hz, hz5⟩ : ∃ z : Nat, (x : Int) * (y : Int) = (z : Int) ∧ z ≤ 5 := by
            obtain rfl | rfl : x = 0 ∨ x = 1 := by omega
            · exact ⟨0, by simp, by omega⟩
            · exact ⟨y, by simp, by omega⟩
          have hl := long (1 + z) 32 w7 (by omega)
          rw [show ((1 + z : Nat) : Int) = 1 + (z : Int) by omega] at hl
          have HL := Lib.hid hl; clear hl
          clear hx hy
          go_wp2_with fail
          refine HL.out.mono ?_
          rintro e w8 ⟨t, ht, rfl, hb⟩
          have HD8 := Lib.hid (Dr.below HD7.out hb); clear hb
          have hst : (s ++ t).size ≤ 100 * k + 6 := by rw [ByteArray.size_append]; omega
          have hts : t.size ≤ 6 := by omega
          clear ht hz
          go_wp2_with fail
          generalize s ++ t = s2 at *
          go_loopw [5, 7] (fun t j wr => ∃ (m : Nat) (s3 : ByteArray), m ≤ 5 ∧ j = .int .i64 m ∧ t = .string s3 ∧ s3.size ≤ 100 * k + 6 + m ∧ Hid (Dr w a len cap p wr)) (fun _ j _ => 5 - (intOf j).toNat)
          case atStart => exact ⟨0, _, Nat.zero_le _, rfl, rfl, by omega, HD8.out⟩
          case round =>
            obtain ⟨m, s3, hm, rfl, rfl, hs3, HDm⟩ := hrel
            go_wp2_with fail
            refine (below HCO.out 5 _ HDm.out (by omega) (by omega)).mono ?_
            rintro e w9 ⟨x, hx, rfl, hd9, hg9⟩
            have HD9 := Lib.hid hd9; clear hd9 hg9
            by_cases hmx : m ≤ x
            · have hmxi : (m : Int) ≤ (x : Int) := by omega
              go_wp2_with fail
              refine (below HCO.out 94 _ HD9.out (by omega) (by omega)).mono ?_
              rintro e w10 ⟨y, hy, rfl, hd10, hg10⟩
              have HD10 := Lib.hid hd10; clear hd10 hg10
              have hs1 : (strOfNums [33 + (y : Int)]).size = 1 := strOfNums_size _
              have hcv := one_text' w10 (33 + (y : Int))
              have HD11 := Lib.hid (Dr.below HD10.out ((Below.refl w10.heap.size w10).alloc (Nat.le_refl _) (.cells #[.int .u8 (33 + (y : Int))] 5)))
              go_wp2_with fail
              go_roundw
              case rel => exact ⟨m + 1, _, by omega, by go_num, rfl, by rw [ByteArray.size_append, hs1]; omega, HD11.out⟩
              case measure => simp [intOf]; omega
            · have hmxi : ¬ (m : Int) ≤ (x : Int) := by omega
              go_wp2_with fail
              go_roundw
              case rel => exact ⟨k + 1, s3, by omega, by go_num, rfl, by omega, HD9.out⟩
              case measure => simp [intOf]; omega
        · obtain rfl : k = 0 := by omega
          go_wp2_with fail
          refine (once HCO.out 5 _ HDr.out (by omega) (by omega)).mono ?_
          rintro e w5 ⟨b2, rfl, hd5, hg5⟩
          have HDs := Lib.hid hd5; clear hd5 hg5
          cases b2 with
          | true =>
            go_wp2_with fail
            refine (below HCO.out 2 _ HDs.out (by omega) (by omega)).mono ?_
            rintro e w6 ⟨x, hx, rfl, hd6, hg6⟩
            have HD6 := Lib.hid hd6; clear hd6 hg6
            go_wp2_with fail
            refine (below HCO.out 3 _ HD6.out (by omega) (by omega)).mono ?_
            rintro e w7 ⟨y, hy, rfl, hd7, hg7⟩
            have HD7 := Lib.hid hd7; clear hd7 hg7
            obtain ⟨z, hz, hz5⟩ : ∃ z : Nat, (x : Int) * (y : Int) = (z : Int) ∧ z ≤ 5 := by
              obtain rfl | rfl : x = 0 ∨ x = 1 := by omega
              · exact ⟨0, by simp, by omega⟩
              · exact ⟨y, by simp, by omega⟩
            have hl := long (1 + z) 32 w7 (by omega)
            rw [show ((1 + z : Nat) : Int) = 1 + (z : Int) by omega] at hl
            have HL := Lib.hid hl; clear hl
            clear hx hy
            go_wp2_with fail
            refine HL.out.mono ?_
            rintro e w8 ⟨t, ht, rfl, hb⟩
            have HD8 := Lib.hid (Dr.below HD7.out hb); clear hb
            have hst : (s ++ t).size ≤ 100 * 0 + 6 := by rw [ByteArray.size_append]; omega
            have hts : t.size ≤ 6 := by omega
            clear ht hz
            go_wp2_with fail
            generalize s ++ t = s2 at *
            go_loopw [5, 7] (fun t j wr => ∃ (m : Nat) (s3 : ByteArray), m ≤ 5 ∧ j = .int .i64 m ∧ t = .string s3 ∧ s3.size ≤ 100 * 0 + 6 + m ∧ Hid (Dr w a len cap p wr)) (fun _ j _ => 5 - (intOf j).toNat)
            case atStart => exact ⟨0, _, Nat.zero_le _, rfl, rfl, by omega, HD8.out⟩
            case round =>
              obtain ⟨m, s3, hm, rfl, rfl, hs3, HDm⟩ := hrel
              go_wp2_with fail
              refine (below HCO.out 5 _ HDm.out (by omega) (by omega)).mono ?_
              rintro e w9 ⟨x, hx, rfl, hd9, hg9⟩
              have HD9 := Lib.hid hd9; clear hd9 hg9
              by_cases hmx : m ≤ x
              · have hmxi : (m : Int) ≤ (x : Int) := by omega
                go_wp2_with fail
                refine (below HCO.out 94 _ HD9.out (by omega) (by omega)).mono ?_
                rintro e w10 ⟨y, hy, rfl, hd10, hg10⟩
                have HD10 := Lib.hid hd10; clear hd10 hg10
                have hs1 : (strOfNums [33 + (y : Int)]).size = 1 := strOfNums_size _
                have hcv := one_text' w10 (33 + (y : Int))
                have HD11 := Lib.hid (Dr.below HD10.out ((Below.refl w10.heap.size w10).alloc (Nat.le_refl _) (.cells #[.int .u8 (33 + (y : Int))] 5)))
                go_wp2_with fail
                go_roundw
                case rel => exact ⟨m + 1, _, by omega, by go_num, rfl, by rw [ByteArray.size_append, hs1]; omega, HD11.out⟩
                case measure => simp [intOf]; omega
              · have hmxi : ¬ (m : Int) ≤ (x : Int) := by omega
                go_wp2_with fail
                go_roundw
                case rel => exact ⟨0 + 1, s3, by omega, by go_num, rfl, by omega, HD9.out⟩
                case measure => simp [intOf]; omega
          | false =>
            go_wp2_with fail
            go_loopw [5, 7] (fun t j wr => ∃ (m : Nat) (s3 : ByteArray), m ≤ 5 ∧ j = .int .i64 m ∧ t = .string s3 ∧ s3.size ≤ 100 * 0 + 6 + m ∧ Hid (Dr w a len cap p wr)) (fun _ j _ => 5 - (intOf j).toNat)
            case atStart => exact ⟨0, _, Nat.zero_le _, rfl, rfl, by omega, HDs.out⟩
            case round =>
              obtain ⟨m, s3, hm, rfl, rfl, hs3, HDm⟩ := hrel
              go_wp2_with fail
              refine (below HCO.out 5 _ HDm.out (by omega) (by omega)).mono ?_
              rintro e w9 ⟨x, hx, rfl, hd9, hg9⟩
              have HD9 := Lib.hid hd9; clear hd9 hg9
              by_cases hmx : m ≤ x
              · have hmxi : (m : Int) ≤ (x : Int) := by omega
                go_wp2_with fail
                refine (below HCO.out 94 _ HD9.out (by omega) (by omega)).mono ?_
                rintro e w10 ⟨y, hy, rfl, hd10, hg10⟩
                have HD10 := Lib.hid hd10; clear hd10 hg10
                have hs1 : (strOfNums [33 + (y : Int)]).size = 1 := strOfNums_size _
                have hcv := one_text' w10 (33 + (y : Int))
                have HD11 := Lib.hid (Dr.below HD10.out ((Below.refl w10.heap.size w10).alloc (Nat.le_refl _) (.cells #[.int .u8 (33 + (y : Int))] 5)))
                go_wp2_with fail
                go_roundw
                case rel => exact ⟨m + 1, _, by omega, by go_num, rfl, by rw [ByteArray.size_append, hs1]; omega, HD11.out⟩
                case measure => simp [intOf]; omega
              · have hmxi : ¬ (m : Int) ≤ (x : Int) := by omega
                go_wp2_with fail
                go_roundw
                case rel => exact ⟨0 + 1, s3, by omega, by go_num, rfl, by omega, HD9.out⟩
                case measure => simp [intOf]; omega
      · obtain rfl : k = n := by omega
        go_wp2_with fail
        refine (below HCO.out 12 _ HDr.out (by omega) (by omega)).mono ?_
        rintro e w5 ⟨c, hc, rfl, hd5, hg5⟩
        have HD5 := Lib.hid hd5; clear hd5 hg5
        by_cases c0 : c = 0
        · subst c0
          have hb6 := Dr.below HD5.out ((Below.refl w5.heap.size w5).alloc (Nat.le_refl _) (.cells (blanks.map Value.string).toArray 9))
          have HB6 := Lib.hid hb6; clear hb6
          have HBC := Lib.hid (blanks_cell w5)
          have hpw := HD5.out.lt
          go_wp2_with fail
          refine (pickStr (n := 6) HCO.out blanks _ HB6.out (by omega) (by omega) (by omega) blanks_sz rfl HBC.out).mono ?_
          rintro e w6 ⟨t, ht, rfl, hd6⟩
          have HD6 := Lib.hid hd6; clear hd6
          go_wp2_with fail
          go_ret
          exact ⟨_, by rw [ByteArray.size_append]; omega, rfl, HD6.out.2.1⟩
        · by_cases c1 : c = 1
          · subst c1
            by_cases hs6 : s.size < 600
            · have hs6i : (s.size : Int) < 600 := by omega
              go_wp2_with fail
              refine (below HCO.out 2 _ HD5.out (by omega) (by omega)).mono ?_
              rintro e w6 ⟨y, hy, rfl, hd6, hg6⟩
              have HD6 := Lib.hid hd6; clear hd6 hg6
              have hl := long (600 - s.size + y) 32 w6 (by omega)
              rw [show ((600 - s.size + y : Nat) : Int) = 600 - (s.size : Int) + (y : Int) by omega] at hl
              have HL := Lib.hid hl; clear hl
              go_wp2_with fail
              refine HL.out.mono ?_
              rintro e w7 ⟨t, ht, rfl, hb⟩
              have hd7 := Dr.below HD6.out hb
              have HD7 := Lib.hid hd7; clear hd7 hb
              have ht2 : t.size ≤ 1000 := by omega
              clear ht
              go_wp2_with fail
              go_ret
              exact ⟨_, by rw [ByteArray.size_append]; omega, rfl, HD7.out.2.1⟩
            · have hs6i : ¬ (s.size : Int) < 600 := by omega
              go_wp2_with fail
              go_ret
              exact ⟨_, by omega, rfl, HD5.out.2.1⟩
          · have e0 : ((c : Int) == 0) = false := by simp; omega
            have e1 : ((c : Int) == 1) = false := by simp; omega
            clear c0 c1
            go_wp2_with fail
            go_ret
            exact ⟨_, by omega, rfl, HD5.out.2.1⟩
  | false =>
    have HDN := HD3
    obtain ⟨n, rfl⟩ : ∃ n : Nat, n = n1 := ⟨_, rfl⟩
    have hn2 : n ≤ 25 := by omega
    go_wp2_with fail
    go_loopw [5, 6] (fun t i wr => ∃ (k : Nat) (s : ByteArray), k ≤ n ∧ i = .int .i64 k ∧ t = .string s ∧ s.size ≤ 100 * k ∧ Hid (Dr w a len cap p wr)) (fun _ i _ => n - (intOf i).toNat)
    case atStart => exact ⟨0, ⟨#[]⟩, Nat.zero_le _, rfl, rfl, by simp [ByteArray.size], HDN.out⟩
    case round =>
      obtain ⟨k, s, hk, rfl, rfl, hs, HDr⟩ := hrel
      by_cases hlt : k < n
      · have h1 : (k : Int) < (n : Int) := by omega
        have h0 : (0 : Int) ≤ (k : Int) := by omega
        by_cases hk0 : 0 < k
        · have g0 : (0 : Int) < (k : Int) := by omega
          go_wp2_with fail
          refine (below HCO.out 2 _ HDr.out (by omega) (by omega)).mono ?_
          rintro e w6 ⟨x, hx, rfl, hd6, hg6⟩
          have HD6 := Lib.hid hd6; clear hd6 hg6
          go_wp2_with fail
          refine (below HCO.out 3 _ HD6.out (by omega) (by omega)).mono ?_
          rintro e w7 ⟨y, hy, rfl, hd7, hg7⟩
          have HD7 := Lib.hid hd7; clear hd7 hg7
          obtain ⟨z, hz, hz5⟩ : ∃ z : Nat, (x : Int) * (y : Int) = (z : Int) ∧ z ≤ 5 := by
            obtain rfl | rfl : x = 0 ∨ x = 1 := by omega
            · exact ⟨0, by simp, by omega⟩
            · exact ⟨y, by simp, by omega⟩
          have hl := long (1 + z) 32 w7 (by omega)
          rw [show ((1 + z : Nat) : Int) = 1 + (z : Int) by omega] at hl
          have HL := Lib.hid hl; clear hl
          clear hx hy
          go_wp2_with fail
          refine HL.out.mono ?_
          rintro e w8 ⟨t, ht, rfl, hb⟩
          have HD8 := Lib.hid (Dr.below HD7.out hb); clear hb
          have hst : (s ++ t).size ≤ 100 * k + 6 := by rw [ByteArray.size_append]; omega
          have hts : t.size ≤ 6 := by omega
          clear ht hz
          go_wp2_with fail
          generalize s ++ t = s2 at *
          go_loopw [5, 7] (fun t j wr => ∃ (m : Nat) (s3 : ByteArray), m ≤ 5 ∧ j = .int .i64 m ∧ t = .string s3 ∧ s3.size ≤ 100 * k + 6 + m ∧ Hid (Dr w a len cap p wr)) (fun _ j _ => 5 - (intOf j).toNat)
          case atStart => exact ⟨0, _, Nat.zero_le _, rfl, rfl, by omega, HD8.out⟩
          case round =>
            obtain ⟨m, s3, hm, rfl, rfl, hs3, HDm⟩ := hrel
            go_wp2_with fail
            refine (below HCO.out 5 _ HDm.out (by omega) (by omega)).mono ?_
            rintro e w9 ⟨x, hx, rfl, hd9, hg9⟩
            have HD9 := Lib.hid hd9; clear hd9 hg9
            by_cases hmx : m ≤ x
            · have hmxi : (m : Int) ≤ (x : Int) := by omega
              go_wp2_with fail
              refine (below HCO.out 94 _ HD9.out (by omega) (by omega)).mono ?_
              rintro e w10 ⟨y, hy, rfl, hd10, hg10⟩
              have HD10 := Lib.hid hd10; clear hd10 hg10
              have hs1 : (strOfNums [33 + (y : Int)]).size = 1 := strOfNums_size _
              have hcv := one_text' w10 (33 + (y : Int))
              have HD11 := Lib.hid (Dr.below HD10.out ((Below.refl w10.heap.size w10).alloc (Nat.le_refl _) (.cells #[.int .u8 (33 + (y : Int))] 5)))
              go_wp2_with fail
              go_roundw
              case rel => exact ⟨m + 1, _, by omega, by go_num, rfl, by rw [ByteArray.size_append, hs1]; omega, HD11.out⟩
              case measure => simp [intOf]; omega
            · have hmxi : ¬ (m : Int) ≤ (x : Int) := by omega
              go_wp2_with fail
              go_roundw
              case rel => exact ⟨k + 1, s3, by omega, by go_num, rfl, by omega, HD9.out⟩
              case measure => simp [intOf]; omega
        · obtain rfl : k = 0 := by omega
          go_wp2_with fail
          refine (once HCO.out 5 _ HDr.out (by omega) (by omega)).mono ?_
          rintro e w5 ⟨b2, rfl, hd5, hg5⟩
          have HDs := Lib.hid hd5; clear hd5 hg5
          cases b2 with
          | true =>
            go_wp2_with fail
            refine (below HCO.out 2 _ HDs.out (by omega) (by omega)).mono ?_
            rintro e w6 ⟨x, hx, rfl, hd6, hg6⟩
            have HD6 := Lib.hid hd6; clear hd6 hg6
            go_wp2_with fail
            refine (below HCO.out 3 _ HD6.out (by omega) (by omega)).mono ?_
            rintro e w7 ⟨y, hy, rfl, hd7, hg7⟩
            have HD7 := Lib.hid hd7; clear hd7 hg7
            obtain ⟨z, hz, hz5⟩ : ∃ z : Nat, (x : Int) * (y : Int) = (z : Int) ∧ z ≤ 5 := by
              obtain rfl | rfl : x = 0 ∨ x = 1 := by omega
              · exact ⟨0, by simp, by omega⟩
              · exact ⟨y, by simp, by omega⟩
            have hl := long (1 + z) 32 w7 (by omega)
            rw [show ((1 + z : Nat) : Int) = 1 + (z : Int) by omega] at hl
            have HL := Lib.hid hl; clear hl
            clear hx hy
            go_wp2_with fail
            refine HL.out.mono ?_
            rintro e w8 ⟨t, ht, rfl, hb⟩
            have HD8 := Lib.hid (Dr.below HD7.out hb); clear hb
            have hst : (s ++ t).size ≤ 100 * 0 + 6 := by rw [ByteArray.size_append]; omega
            have hts : t.size ≤ 6 := by omega
            clear ht hz
            go_wp2_with fail
            generalize s ++ t = s2 at *
            go_loopw [5, 7] (fun t j wr => ∃ (m : Nat) (s3 : ByteArray), m ≤ 5 ∧ j = .int .i64 m ∧ t = .string s3 ∧ s3.size ≤ 100 * 0 + 6 + m ∧ Hid (Dr w a len cap p wr)) (fun _ j _ => 5 - (intOf j).toNat)
            case atStart => exact ⟨0, _, Nat.zero_le _, rfl, rfl, by omega, HD8.out⟩
            case round =>
              obtain ⟨m, s3, hm, rfl, rfl, hs3, HDm⟩ := hrel
              go_wp2_with fail
              refine (below HCO.out 5 _ HDm.out (by omega) (by omega)).mono ?_
              rintro e w9 ⟨x, hx, rfl, hd9, hg9⟩
              have HD9 := Lib.hid hd9; clear hd9 hg9
              by_cases hmx : m ≤ x
              · have hmxi : (m : Int) ≤ (x : Int) := by omega
                go_wp2_with fail
                refine (below HCO.out 94 _ HD9.out (by omega) (by omega)).mono ?_
                rintro e w10 ⟨y, hy, rfl, hd10, hg10⟩
                have HD10 := Lib.hid hd10; clear hd10 hg10
                have hs1 : (strOfNums [33 + (y : Int)]).size = 1 := strOfNums_size _
                have hcv := one_text' w10 (33 + (y : Int))
                have HD11 := Lib.hid (Dr.below HD10.out ((Below.refl w10.heap.size w10).alloc (Nat.le_refl _) (.cells #[.int .u8 (33 + (y : Int))] 5)))
                go_wp2_with fail
                go_roundw
                case rel => exact ⟨m + 1, _, by omega, by go_num, rfl, by rw [ByteArray.size_append, hs1]; omega, HD11.out⟩
                case measure => simp [intOf]; omega
              · have hmxi : ¬ (m : Int) ≤ (x : Int) := by omega
                go_wp2_with fail
                go_roundw
                case rel => exact ⟨0 + 1, s3, by omega, by go_num, rfl, by omega, HD9.out⟩
                case measure => simp [intOf]; omega
          | false =>
            go_wp2_with fail
            go_loopw [5, 7] (fun t j wr => ∃ (m : Nat) (s3 : ByteArray), m ≤ 5 ∧ j = .int .i64 m ∧ t = .string s3 ∧ s3.size ≤ 100 * 0 + 6 + m ∧ Hid (Dr w a len cap p wr)) (fun _ j _ => 5 - (intOf j).toNat)
            case atStart => exact ⟨0, _, Nat.zero_le _, rfl, rfl, by omega, HDs.out⟩
            case round =>
              obtain ⟨m, s3, hm, rfl, rfl, hs3, HDm⟩ := hrel
              go_wp2_with fail
              refine (below HCO.out 5 _ HDm.out (by omega) (by omega)).mono ?_
              rintro e w9 ⟨x, hx, rfl, hd9, hg9⟩
              have HD9 := Lib.hid hd9; clear hd9 hg9
              by_cases hmx : m ≤ x
              · have hmxi : (m : Int) ≤ (x : Int) := by omega
                go_wp2_with fail
                refine (below HCO.out 94 _ HD9.out (by omega) (by omega)).mono ?_
                rintro e w10 ⟨y, hy, rfl, hd10, hg10⟩
                have HD10 := Lib.hid hd10; clear hd10 hg10
                have hs1 : (strOfNums [33 + (y : Int)]).size = 1 := strOfNums_size _
                have hcv := one_text' w10 (33 + (y : Int))
                have HD11 := Lib.hid (Dr.below HD10.out ((Below.refl w10.heap.size w10).alloc (Nat.le_refl _) (.cells #[.int .u8 (33 + (y : Int))] 5)))
                go_wp2_with fail
                go_roundw
                case rel => exact ⟨m + 1, _, by omega, by go_num, rfl, by rw [ByteArray.size_append, hs1]; omega, HD11.out⟩
                case measure => simp [intOf]; omega
              · have hmxi : ¬ (m : Int) ≤ (x : Int) := by omega
                go_wp2_with fail
                go_roundw
                case rel => exact ⟨0 + 1, s3, by omega, by go_num, rfl, by omega, HD9.out⟩
                case measure => simp [intOf]; omega
      · obtain rfl : k = n := by omega
        go_wp2_with fail
        refine (below HCO.out 12 _ HDr.out (by omega) (by omega)).mono ?_
        rintro e w5 ⟨c, hc, rfl, hd5, hg5⟩
        have HD5 := Lib.hid hd5; clear hd5 hg5
        by_cases c0 : c = 0
        · subst c0
          have hb6 := Dr.below HD5.out ((Below.refl w5.heap.size w5).alloc (Nat.le_refl _) (.cells (blanks.map Value.string).toArray 9))
          have HB6 := Lib.hid hb6; clear hb6
          have HBC := Lib.hid (blanks_cell w5)
          have hpw := HD5.out.lt
          go_wp2_with fail
          refine (pickStr (n := 6) HCO.out blanks _ HB6.out (by omega) (by omega) (by omega) blanks_sz rfl HBC.out).mono ?_
          rintro e w6 ⟨t, ht, rfl, hd6⟩
          have HD6 := Lib.hid hd6; clear hd6
          go_wp2_with fail
          go_ret
          exact ⟨_, by rw [ByteArray.size_append]; omega, rfl, HD6.out.2.1⟩
        · by_cases c1 : c = 1
          · subst c1
            by_cases hs6 : s.size < 600
            · have hs6i : (s.size : Int) < 600 := by omega
              go_wp2_with fail
              refine (below HCO.out 2 _ HD5.out (by omega) (by omega)).mono ?_
              rintro e w6 ⟨y, hy, rfl, hd6, hg6⟩
              have HD6 := Lib.hid hd6; clear hd6 hg6
              have hl := long (600 - s.size + y) 32 w6 (by omega)
              rw [show ((600 - s.size + y : Nat) : Int) = 600 - (s.size : Int) + (y : Int) by omega] at hl
              have HL := Lib.hid hl; clear hl
              go_wp2_with fail
              refine HL.out.mono ?_
              rintro e w7 ⟨t, ht, rfl, hb⟩
              have hd7 := Dr.below HD6.out hb
              have HD7 := Lib.hid hd7; clear hd7 hb
              have ht2 : t.size ≤ 1000 := by omega
              clear ht
              go_wp2_with fail
              go_ret
              exact ⟨_, by rw [ByteArray.size_append]; omega, rfl, HD7.out.2.1⟩
            · have hs6i : ¬ (s.size : Int) < 600 := by omega
              go_wp2_with fail
              go_ret
              exact ⟨_, by omega, rfl, HD5.out.2.1⟩
          · have e0 : ((c : Int) == 0) = false := by simp; omega
            have e1 : ((c : Int) == 1) = false := by simp; omega
            clear c0 c1
            go_wp2_with fail
            go_ret
            exact ⟨_, by omega, rfl, HD5.out.2.1⟩
end Go.Proofs.YtfmafledakchhaaDoor
