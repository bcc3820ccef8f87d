/- FormatInt of the program and of the model: for every int both return its decimal numeral. The program's, where the library's table of powers of ten reads as the library's text lays it. -/
import Derived.Test.YtpdhdogllejdbaaDoorProg
import Derived.Test.YtpdhdogllejdbaaDoorBase
import Derived.Test.YtpdhdogllejdbaaDoorShelf
import Derived.WalkKit
import Derived.WalkSpells
import Derived.BigQuiet
import Derived.Lib.Hide
import Derived.IntWalk
import Derived.Lib.ItoaLen
import Derived.Lib.LaidTab
namespace Go.Proofs.YtpdhdogllejdbaaDoor
open Go.RowKit
theorem fig10 (x : Int) (w : World) (h0 : 0 ≤ x) (h1 : x ≤ 9) :
    Calls Tryd.prog 36 #[.int .i64 x] w fun e w' => e = .returned (.int .u8 (48 + x)) ∧ w = w' := by
  have h : x < 10 := by omega
  go_enter Tryd.func36, Tryd.ntmps36
  go_wp2
  go_ret
  exact ⟨rfl, rfl⟩
theorem one_text' (w : World) (d : Int) : (convert 22 9 (.slice (some ⟨w.heap.size, 0, none⟩) 1 1)).run Tryd.prog (w.alloc (.cells #[.int .u8 d] 5)) = .ok (.string (strOfNums [d])) (w.alloc (.cells #[.int .u8 d] 5)) := by
  have h : (w.alloc (.cells #[.int .u8 d] 5)).ownsRow w.heap.size 5 1 (.slice (some ⟨w.heap.size, 0, none⟩) 1 1) 1 ([d].map (Value.int .u8)) := World.ownsRow_lit w #[.int .u8 d] 1 (Nat.le_refl _) (by unfold maxLen; omega) rfl
  exact convert_own _ 22 5 9 Tryd.underlying22 Tryd.underlying5 Tryd.underlying9 h
/-- The digits of m; none for 0. -/
def decD (m : Nat) : List UInt8 := if m = 0 then [] else Lib.decDigits m
theorem decD_step (m : Nat) (h : 0 < m) : decD m = decD (m / 10) ++ [UInt8.ofNat (48 + m % 10)] := by
  unfold decD
  rw [if_neg (by omega), Lib.decDigits]
  by_cases h1 : m < 10
  · rw [dif_pos h1, if_pos (by omega), show m % 10 = m from Nat.mod_eq_of_lt h1]
    rfl
  · rw [dif_neg h1, if_neg (by omega)]
theorem push_digit (m : Nat) (out : ByteArray) : strOfNums [48 + (m % 10 : Nat)] ++ out = bs (UInt8.ofNat (48 + m % 10) :: out.data.toList) := by
  have e : ((48 : Int) + (m % 10 : Nat)).toNat = 48 + m % 10 := by omega
  have h1 : strOfNums [48 + (m % 10 : Nat)] = bs [UInt8.ofNat (48 + m % 10)] := by
    show bs [UInt8.ofNat ((48 : Int) + (m % 10 : Nat)).toNat] = _
    rw [e]
  have h2 : out = bs out.data.toList := (bs_data out).symm
  rw [h1]
  conv => lhs; rw [h2]
  rw [bs_append]
  rfl
theorem size_length (s : ByteArray) : s.size = s.data.toList.length := by rw [Array.length_toList]; rfl
def Dig (N m : Nat) (out : ByteArray) : Prop := decD m ++ out.data.toList = Lib.decDigits N ∧ out.size ≤ 21
theorem Dig.start (N : Nat) (h : 0 < N) : Dig N N ⟨#[]⟩ := ⟨by simp [decD, show N ≠ 0 by omega], by decide⟩
theorem dig_len (N : Nat) (h : N ≤ 9223372036854775808) : (Lib.decDigits N).length ≤ 20 := by
  by_cases h0 : N = 0
  · subst h0; rw [Lib.decDigits_one (by decide)]; decide
  · have := Lib.itoa_length_le (-(N : Int)) (by omega) (by omega)
    rw [Lib.itoa_neg N (by omega)] at this
    simpa using this
theorem Dig.step {N m : Nat} {out : ByteArray} (h : Dig N m out) (hm : 0 < m) (hN : N ≤ 9223372036854775808) : Dig N (m / 10) (strOfNums [48 + (m % 10 : Nat)] ++ out) := by
  have h1 : decD (m / 10) ++ (strOfNums [48 + (m % 10 : Nat)] ++ out).data.toList = Lib.decDigits N := by
    rw [push_digit, ← h.1, decD_step m hm]
    simp [bs]
  refine ⟨h1, ?_⟩
  have h2 := congrArg List.length h1
  have h3 := dig_len N hN
  rw [List.length_append] at h2
  rw [size_length]
  omega
theorem Dig.done {N : Nat} {out : ByteArray} (h : Dig N 0 out) : out = bs (Lib.decDigits N) := by
  have h1 := h.1
  simp only [decD, if_true, List.nil_append] at h1
  rw [← h1, bs_data]
def FmtPost (n : Int) (w : World) (e : Ending) (w' : World) : Prop := e = .returned (.string (bs (Lib.itoa n))) ∧ Below w.heap.size w w'
set_option maxHeartbeats 1000000 in
set_option maxRecDepth 100000 in
theorem specFmt_pos (N : Nat) (w : World) (h0 : 0 < N) (h1 : N ≤ 9223372036854775807) : Calls Tryd.prog 31 #[.int .i64 N] w (FmtPost N w) := by
  have HST := Lib.hid (Dig.start N h0)
  have g0 : (0 : Int) < (N : Int) := by omega
  have k0 : ((N : Int) == 0) = false := by simp; omega
  have k1 : decide ((N : Int) < 0) = false := decide_eq_false (by omega)
  have H1 := Lib.hid h1
  clear h0 h1
  go_enter Tryd.func31, Tryd.ntmps31
  go_wp2_with fail
  go_loopw [0, 4, 5] (fun t s _ wr => ∃ (m : Nat) (out : ByteArray), m ≤ N ∧ t = .int .i64 m ∧ s = .string out ∧ Hid (Dig N m out) ∧ Below w.heap.size w wr) (fun t _ _ _ => (intOf t).toNat)
  case atStart => exact ⟨N, ⟨#[]⟩, Nat.le_refl _, rfl, rfl, HST.out, Below.refl _ _⟩
  case round =>
    obtain ⟨m, out, HM, rfl, rfl, HD, hb⟩ := hrel
    have hbz := hb.size
    have hos := HD.out.2
    by_cases hm : 0 < m
    · have m0 : (0 : Int) < (m : Int) := by omega
      have m1 : ((m : Int) != 0) = true := by simp; omega
      have g2 : (0 : Int) ≤ (m : Int) % 10 := by omega
      have g3 : (m : Int) % 10 < 10 := by omega
      have hs1 : (strOfNums [48 + (m : Int) % 10]).size = 1 := strOfNums_size _
      have hc := one_text' wr (48 + (m : Int) % 10)
      have HD' := Lib.hid (HD.out.step hm (by have := H1.out; omega))
      have hw : (m : Int) / 10 ≤ 1000000000000000000 := by have := H1.out; omega
      have HM' : m / 10 ≤ N := by omega
      go_wp2_with fail
      refine (fig10 _ _ (by omega) (by omega)).mono ?_
      rintro e w1 ⟨rfl, rfl⟩
      go_wp2_with fail
      go_roundw
      case rel => exact ⟨m / 10, _, HM', rfl, rfl, HD'.out, hb.alloc hbz _⟩
      case measure => simp [intOf]; omega
    · obtain rfl : m = 0 := by omega
      have hd := HD.out.done
      have HDD := Lib.hid hd; clear hd
      go_wp2_with fail
      go_ret
      exact ⟨ret_str (by rw [HDD.out, Lib.itoa_nonneg]), hb⟩
theorem neg_tmod (m : Nat) : (-(m : Int)).tmod 10 = -((m : Int) % 10) := by rw [Int.neg_tmod, Int.tmod_eq_emod_of_nonneg (by omega)]
theorem neg_tdiv (m : Nat) : (-(m : Int)).tdiv 10 = -((m : Int) / 10) := by rw [Int.neg_tdiv, Int.tdiv_eq_ediv_of_nonneg (by omega)]
set_option maxHeartbeats 1000000 in
set_option maxRecDepth 100000 in
theorem specFmt_neg (N : Nat) (w : World) (h0 : 0 < N) (h1 : N ≤ 9223372036854775808) : Calls Tryd.prog 31 #[.int .i64 (-(N : Int))] w (FmtPost (-(N : Int)) w) := by
  have HST := Lib.hid (Dig.start N h0)
  have g0 : -(N : Int) < 0 := by omega
  have k0 : (-(N : Int) == 0) = false := by simp; omega
  have k1 : decide (-(N : Int) < 0) = true := decide_eq_true (by omega)
  have H0 := Lib.hid h0
  have H1 := Lib.hid h1
  clear h0 h1
  go_enter Tryd.func31, Tryd.ntmps31
  go_wp2_with fail
  go_loopw [0, 4, 5] (fun t s _ wr => ∃ (m : Nat) (out : ByteArray), m ≤ N ∧ t = .int .i64 (-(m : Int)) ∧ s = .string out ∧ Hid (Dig N m out) ∧ Below w.heap.size w wr) (fun t _ _ _ => (-(intOf t)).toNat)
  case atStart => exact ⟨N, ⟨#[]⟩, Nat.le_refl _, rfl, rfl, HST.out, Below.refl _ _⟩
  case round =>
    obtain ⟨m, out, HM, rfl, rfl, HD, hb⟩ := hrel
    have hbz := hb.size
    have hos := HD.out.2
    by_cases hm : 0 < m
    · have m1 : (-(m : Int) != 0) = true := by simp; omega
      have hw : (m : Int) / 10 ≤ 1000000000000000000 := by have := H1.out; omega
      have hw0 : 0 ≤ (m : Int) / 10 := by omega
      have HD' := Lib.hid (HD.out.step hm H1.out)
      have HM' : m / 10 ≤ N := by omega
      have e1 := neg_tmod m
      have e2 := neg_tdiv m
      obtain ⟨d, hd⟩ : ∃ d : Nat, m % 10 = d := ⟨_, rfl⟩
      have hdi : (m : Int) % 10 = (d : Int) := by omega
      have hd9 : d ≤ 9 := by omega
      rw [hd] at HD'
      rw [hdi] at e1
      clear hd hdi
      have hs1 : (strOfNums [48 + (d : Int)]).size = 1 := strOfNums_size _
      have hc := one_text' wr (48 + (d : Int))
      by_cases hdz : d = 0
      · subst hdz
        simp only [Int.ofNat_zero, Int.neg_zero, Int.add_zero] at e1 hs1 hc HD'
        go_wp2_with fail
        refine (fig10 _ _ (by omega) (by omega)).mono ?_
        rintro e w1 ⟨rfl, rfl⟩
        go_wp2_with fail
        go_roundw
        case rel => exact ⟨m / 10, _, HM', rfl, rfl, HD'.out, hb.alloc hbz _⟩
        case measure => simp [intOf]; omega
      · have hd0 : -(d : Int) < 0 := by omega
        go_wp2_with fail
        refine (fig10 _ _ (by omega) (by omega)).mono ?_
        rintro e w1 ⟨rfl, rfl⟩
        go_wp2_with fail
        go_roundw
        case rel => exact ⟨m / 10, _, HM', rfl, rfl, HD'.out, hb.alloc hbz _⟩
        case measure => simp [intOf]; omega
    · obtain rfl : m = 0 := by omega
      have hd := HD.out.done
      have HDD := Lib.hid hd; clear hd
      go_wp2_with fail
      go_ret
      have e3 : (⟨#[45]⟩ : ByteArray) ++ out = bs (Lib.itoa (-(N : Int))) := by
        rw [HDD.out, Lib.itoa_neg N H0.out, show (⟨#[45]⟩ : ByteArray) = bs [45] from rfl, bs_append]; rfl
      exact ⟨ret_str e3, hb⟩
set_option maxRecDepth 100000 in
theorem specFmt_zero (w : World) : Calls Tryd.prog 31 #[.int .i64 0] w (FmtPost 0 w) := by
  go_enter Tryd.func31, Tryd.ntmps31
  go_wp2
  go_ret
  have e : (⟨#[48]⟩ : ByteArray) = bs (Lib.itoa 0) := by
    have : Lib.itoa 0 = [48] := by
      have := Lib.itoa_nonneg 0
      rw [Lib.decDigits_one (by omega)] at this
      exact this
    rw [this]; rfl
  exact ⟨ret_str e, Below.refl _ _⟩
theorem specFmt (n : Int) (w : World) (h0 : -9223372036854775808 ≤ n) (h1 : n ≤ 9223372036854775807) : Calls Tryd.prog 31 #[.int .i64 n] w (FmtPost n w) := by
  rcases Int.lt_trichotomy n 0 with h | h | h
  · obtain ⟨N, hN⟩ := Int.eq_ofNat_of_zero_le (show 0 ≤ -n by omega)
    obtain rfl : n = -(N : Int) := by omega
    exact specFmt_neg N w (by omega) (by omega)
  · subst h; exact specFmt_zero w
  · obtain ⟨N, rfl⟩ := Int.eq_ofNat_of_zero_le (show 0 ≤ n by omega)
    exact specFmt_pos N w (by omega) (by omega)
/-- The library's table of powers of ten reads as its text lays it (whatever name leads to that variable). -/
def PowTab (w : World) : Prop := ∀ nm, Tryd.prog.globalNamed nm = some 0 → Lib.TabIs Tryd.prog w nm .u64 Lib.pow10Tab
theorem PowTab.below {w w' : World} (h : PowTab w) (hb : Below w.heap.size w w') : PowTab w' := fun nm hg => Go.Joins.tab_stays hg (h nm hg) hb (Nat.le_refl _)
theorem tab_named {w : World} {a b : String} {g : Nat} {k : IntKind} {zs : List Int} (ha : Tryd.prog.globalNamed a = some g) (hb : Tryd.prog.globalNamed b = some g) (h : Lib.TabIs Tryd.prog w a k zs) : Lib.TabIs Tryd.prog w b k zs := by
  unfold Lib.TabIs World.var? at *
  rw [hb]; rw [ha] at h; exact h
theorem below_grow (w : World) (k : Nat) (os : Array Obj) : Below w.heap.size w (Go.Sort.grow (w.drewN k) os) :=
  ⟨rfl, rfl, rfl, by simp [Go.Sort.grow, World.drewN], fun j hj => by simp only [Go.Sort.grow, World.drewN]; exact Array.getElem?_append_left hj⟩
set_option maxRecDepth 100000 in
theorem implFmt (n : Int) (w : World) (h0 : -9223372036854775808 ≤ n) (h1 : n ≤ 9223372036854775807) (ht : PowTab w) : Calls Tryd.prog 26 #[.int .i64 n] w (FmtPost n w) := by
  have h := Any.strconv_Itoa Tryd.laysM171 n h0 h1 w (ht _ (by kernel_rfl))
  have H := Lib.hid h; clear h h0 h1 ht
  go_enter Tryd.func26, Tryd.ntmps26
  go_wp2_with fail
  refine H.out.mono ?_
  rintro e w1 ⟨rfl, k, os, rfl⟩
  go_wp2_with fail
  go_ret
  exact ⟨rfl, below_grow w k os⟩
end Go.Proofs.YtpdhdogllejdbaaDoor
