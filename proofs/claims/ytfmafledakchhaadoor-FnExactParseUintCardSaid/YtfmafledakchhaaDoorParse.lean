/- ParseUint of the program and of the model: both give the number that the text spells, or 0 and false where it spells none up to MaxUint. The program's, where the library's tables and errors read as the library's text lays them. -/
import Derived.Test.YtfmafledakchhaaDoorProg
import Derived.Test.YtfmafledakchhaaDoorBase
import Derived.Test.YtfmafledakchhaaDoorShelf
import Derived.Test.YtfmafledakchhaaDoorNum
import Derived.Test.YtfmafledakchhaaDoorFormat
import Derived.WalkKit
import Derived.WalkSpells
import Derived.BigQuiet
import Derived.Lib.Hide
import Derived.Stop.IfaceNil
namespace Go.Proofs.YtfmafledakchhaaDoor
open Go.RowKit
def ParsePost (s : ByteArray) (w : World) (e : Ending) (w' : World) : Prop :=
  Below w.heap.size w w' ∧ ((∃ n, IsNum s n ∧ e = .returned (.tuple #[.int .i64 (n : Int), .bool true])) ∨ ((∀ n, ¬ IsNum s n) ∧ e = .returned (.tuple #[.int .i64 0, .bool false])))
theorem parse_no {s : ByteArray} {w w' : World} (hb : Below w.heap.size w w') (h : ∀ n, ¬ IsNum s n) : ParsePost s w (.returned (.tuple #[.int .i64 0, .bool false])) w' := ⟨hb, .inr ⟨h, rfl⟩⟩
theorem parse_yes {s : ByteArray} {w w' : World} {n : Nat} (hb : Below w.heap.size w w') (h : IsNum s n) : ParsePost s w (.returned (.tuple #[.int .i64 (n : Int), .bool true])) w' := ⟨hb, .inl ⟨n, h, rfl⟩⟩
theorem val_lt : ∀ (l : List UInt8) (a : Nat), (∀ c ∈ l, 48 ≤ c.toNat ∧ c.toNat ≤ 57) → valF a l + 1 ≤ (a + 1) * 10 ^ l.length := by
  intro l
  induction l with
  | nil => intro a _; simp [valF]
  | cons c r ih =>
    intro a h
    have hc := h c (by simp)
    have := ih (10 * a + (c.toNat - 48)) (fun x hx => h x (by simp [hx]))
    have e : valF a (c :: r) = valF (10 * a + (c.toNat - 48)) r := rfl
    rw [e, List.length_cons, Nat.pow_succ]
    refine Nat.le_trans this ?_
    rw [Nat.mul_comm (10 ^ r.length) 10, ← Nat.mul_assoc]
    exact Nat.mul_le_mul_right _ (by omega)
set_option maxHeartbeats 1000000 in
set_option maxRecDepth 100000 in
theorem specParse_long (s : ByteArray) (w : World) (h : 10 < s.size) (hm : s.size ≤ 1048576) : Calls Tryd.prog 20 #[.string s] w (ParsePost s w) := by
  have hp := parse_no (s := s) (Below.refl w.heap.size w) (fun n hn => by have := hn.size; omega)
  have HP := Lib.hid hp; clear hp
  have hf : (10 : Int) < s.size := by omega
  go_enter Tryd.func20, Tryd.ntmps20
  go_wp2
  go_ret2
  exact HP.out
set_option maxHeartbeats 1000000 in
set_option maxRecDepth 100000 in
theorem specParse (s : ByteArray) (w : World) (h : s.size ≤ 10) : Calls Tryd.prog 20 #[.string s] w (ParsePost s w) := by
  have hf : ¬ (10 : Int) < s.size := by omega
  have hf2 : decide ((10 : Int) < s.size) = false := decide_eq_false hf
  go_enter Tryd.func20, Tryd.ntmps20
  go_wp2_with fail
  go_loop [4, 5] (fun t i => ∃ (k v : Nat), k ≤ s.size ∧ i = .int .i64 k ∧ t = .int .i64 v ∧ Hid (valF 0 (s.data.toList.take k) = v) ∧ Hid (∀ c ∈ s.data.toList.take k, 48 ≤ c.toNat ∧ c.toNat ≤ 57)) (fun _ i => s.size - (intOf i).toNat)
  case atStart => exact ⟨0, 0, Nat.zero_le _, rfl, rfl, rfl, by intro c hc; simp at hc⟩
  case round =>
    obtain ⟨k, v, hk, rfl, rfl, HV, HD⟩ := hrel
    have hvb : v ≤ 10000000000 := by
      have h1 := val_lt (s.data.toList.take k) 0 HD.out
      rw [HV.out, List.length_take] at h1
      have h2 : (10 : Nat) ^ (min k s.data.toList.length) ≤ 10 ^ 10 := Nat.pow_le_pow_right (by omega) (by simp; omega)
      omega
    by_cases hlt : k < s.size
    · have h0 : (0 : Int) ≤ (k : Int) := by omega
      have h1 : (k : Int) < (s.size : Int) := by omega
      have hts := take_snoc s k hlt
      have hmem : s[k] ∈ s.data.toList := List.getElem_mem (l := s.data.toList) (n := k) (by simpa using hlt)
      obtain ⟨c, hc⟩ : ∃ c, s[k] = c := ⟨_, rfl⟩
      rw [hc] at hts hmem
      have HT := Lib.hid hts; clear hts
      have HM := Lib.hid hmem; clear hmem
      have hcb : (c.toNat : Int) < 256 := by have := c.toNat_lt; omega
      by_cases c1 : (c.toNat : Int) < 48
      · have hno : Hid (∀ n, ¬ IsNum s n) := by
          intro n hn
          have := HM.out
          rw [hn.data] at this
          have := digits_ok n c this
          omega
        go_wp2_with fail
        go_ret2
        exact parse_no (Below.refl _ _) hno.out
      · by_cases c2 : (57 : Int) < (c.toNat : Int)
        · have hno : Hid (∀ n, ¬ IsNum s n) := by
            intro n hn
            have := HM.out
            rw [hn.data] at this
            have := digits_ok n c this
            omega
          go_wp2_with fail
          go_ret2
          exact parse_no (Below.refl _ _) hno.out
        · have hV' : Hid (valF 0 (s.data.toList.take (k + 1)) = 10 * v + (c.toNat - 48)) := by
            unfold Hid
            rw [HT.out, valF_snoc, HV.out]
          have hD' : Hid (∀ x ∈ s.data.toList.take (k + 1), 48 ≤ x.toNat ∧ x.toNat ≤ 57) := by
            intro x hx
            rw [HT.out, List.mem_append, List.mem_singleton] at hx
            rcases hx with hx | hx
            · exact HD.out x hx
            · subst hx; omega
          have hci : (10 * (v : Int) + (c.toNat : Int) - 48) = ((10 * v + (c.toNat - 48) : Nat) : Int) := by omega
          have HCI := Lib.hid hci; clear hci
          go_wp2_with fail
          go_round
          case rel => exact ⟨k + 1, _, by omega, by go_num, by rw [HCI.out], hV', hD'⟩
          case measure => simp [intOf]; omega
    · obtain rfl : k = s.size := by omega
      have hv : Hid (∀ n, IsNum s n → n = v) := by
        intro n hn
        have := HV.out
        rw [take_all, hn.data, val_digits] at this
        exact this
      by_cases hbig : 1000000000 < v
      · have hno : Hid (∀ n, ¬ IsNum s n) := by
          intro n hn
          have := hv.out n hn
          have := hn.1
          omega
        have hbi : (1000000000 : Int) < (v : Int) := by omega
        go_wp2_with fail
        go_ret2
        exact parse_no (Below.refl _ _) hno.out
      · have hbi : ¬ (1000000000 : Int) < (v : Int) := by omega
        have HF := Lib.hid (specFmt (v : Int) w (by omega) (by omega))
        go_wp2_with fail
        refine HF.out.mono ?_
        rintro e w1 ⟨rfl, hb⟩
        by_cases heq : bs (Lib.itoa (v : Int)) = s
        · have hn : Hid (IsNum s v) := ⟨by omega, heq⟩
          rw [heq]
          clear heq
          go_wp2_with fail
          go_ret2
          exact parse_yes hb hn.out
        · have hno : Hid (∀ n, ¬ IsNum s n) := by
            intro n hn
            have h1 := hv.out n hn
            subst h1
            exact heq hn.2
          obtain ⟨t, ht⟩ : ∃ t, bs (Lib.itoa (v : Int)) = t := ⟨_, rfl⟩
          rw [ht] at heq ⊢
          have hx := str_ne heq
          clear heq ht
          go_wp2_with fail
          go_ret2
          exact parse_no hb hno.out
/-- The library's two errors read as errors. -/
def ErrVars (w : World) : Prop := (∃ te pe, w.cell? ⟨1, 0, none⟩ = some (.iface te pe)) ∧ (∃ te pe, w.cell? ⟨2, 0, none⟩ = some (.iface te pe))
theorem ErrVars.below {w w' : World} (h : ErrVars w) (hb : Below w.heap.size w w') : ErrVars w' := by
  obtain ⟨⟨a, b, h1⟩, ⟨c, d, h2⟩⟩ := h
  exact ⟨⟨a, b, (hb.cell (by exact World.block_lt_of_cell? w _ h1)).trans h1⟩, ⟨c, d, (hb.cell (by exact World.block_lt_of_cell? w _ h2)).trans h2⟩⟩
def AtoiPost (s : ByteArray) (w : World) (e : Ending) (w' : World) : Prop :=
  Below w.heap.size w w' ∧ ((∃ v, Lib.atoiAll s.data.toList = .ok v ∧ e = .returned (.tuple #[.int .i64 v, .nilIface])) ∨
    ((∀ v, Lib.atoiAll s.data.toList ≠ .ok v) ∧ ∃ x t y, e = .returned (.tuple #[.int .i64 x, .iface t y])))
theorem atoiC (s : ByteArray) (w : World) (hs : s.size ≤ 1048576) (he : ErrVars w) : Calls Tryd.prog 29 #[.string s] w (AtoiPost s w) := by
  obtain ⟨⟨t1, p1, h1⟩, ⟨t2, p2, h2⟩⟩ := he
  rcases hA : Lib.atoiAll s.data.toList with v | _ | _
  · refine (Any.strconv_Atoi_ok Tryd.laysC172 s (by omega) v hA w).mono ?_
    rintro e w' ⟨rfl, hw⟩
    refine ⟨?_, .inl ⟨v, hA, rfl⟩⟩
    rcases hw with rfl | ⟨t, rfl⟩
    · exact Below.refl _ _
    · exact Lib.bytesWorld_below _ _ _
  · refine (Any.strconv_Atoi_syntax Tryd.laysC172 s (by omega) hA _ w h1 (.inr ⟨_, _, rfl⟩)).mono ?_
    rintro e w' ⟨N, rfl, _, _, hb⟩
    exact ⟨hb, .inr ⟨(by intro v h; rw [hA] at h; cases h), _, _, _, rfl⟩⟩
  · refine (Any.strconv_Atoi_range Tryd.laysC172 s (by omega) hA _ w h2 (.inr ⟨_, _, rfl⟩)).mono ?_
    rintro e w' ⟨N, rfl, _, _, hb⟩
    exact ⟨hb, .inr ⟨(by intro v h; rw [hA] at h; cases h), _, _, _, rfl⟩⟩
theorem num_atoi {s : ByteArray} {n : Nat} (h : IsNum s n) : Lib.atoiAll s.data.toList = .ok (n : Int) := by
  rw [h.data]; exact atoi_digits n h.1
theorem isErr : Tryd.prog.isIface 47 = true := by kernel_rfl
set_option maxHeartbeats 1000000 in
set_option maxRecDepth 100000 in
theorem implParse (s : ByteArray) (w : World) (hs : s.size ≤ 1048576) (he : ErrVars w) (hp : PowTab w) : Calls Tryd.prog 14 #[.string s] w (ParsePost s w) := by
  have HA := Lib.hid (atoiC s w hs he)
  have HP := Lib.hid hp
  clear he hp
  have hi := isErr
  go_enter Tryd.func14, Tryd.ntmps14
  go_wp2_with fail
  refine HA.out.mono ?_
  rintro e w1 ⟨hb1, hh⟩
  rcases hh with ⟨v, hv, rfl⟩ | ⟨hno, x, t, y, rfl⟩
  · have hbd := Lib.atoiAll_bounds hv
    have HV := Lib.hid hv; clear hv
    have HP1 := Lib.hid (HP.out.below hb1)
    have HI := Lib.hid (implFmt v w1 hbd.1 hbd.2 HP1.out)
    clear hbd
    have hnum : Hid (∀ n, IsNum s n → (n : Int) = v) := by
      intro n hn
      have := num_atoi hn
      rw [HV.out] at this
      injection this with this
      exact this.symm
    by_cases h0 : v < 0
    · have hno : Hid (∀ n, ¬ IsNum s n) := by
        intro n hn
        have := hnum.out n hn
        omega
      go_wp2_with fail
      go_ret2
      exact parse_no hb1 hno.out
    · by_cases h1 : (1000000000 : Int) < v
      · have hno : Hid (∀ n, ¬ IsNum s n) := by
          intro n hn
          have := hnum.out n hn
          have := hn.1
          omega
        go_wp2_with fail
        go_ret2
        exact parse_no hb1 hno.out
      · obtain ⟨n, rfl⟩ := Int.eq_ofNat_of_zero_le (show 0 ≤ v by omega)
        go_wp2_with fail
        refine HI.out.mono ?_
        rintro e w2 ⟨rfl, hb2⟩
        have hb := hb1.trans (hb2.mono hb1.size)
        clear hb1 hb2
        by_cases heq : bs (Lib.itoa (n : Int)) = s
        · have hn : Hid (IsNum s n) := ⟨by omega, heq⟩
          rw [heq]
          clear heq
          go_wp2_with fail
          go_ret2
          exact parse_yes hb hn.out
        · have hno : Hid (∀ m, ¬ IsNum s m) := by
            intro m hm
            have h1 := hnum.out m hm
            have h2 : m = n := by omega
            subst h2
            exact heq hm.2
          obtain ⟨t, ht⟩ : ∃ t, bs (Lib.itoa (n : Int)) = t := ⟨_, rfl⟩
          rw [ht] at heq ⊢
          have hx := str_ne heq
          clear heq ht
          go_wp2_with fail
          go_ret2
          exact parse_no hb hno.out
  · have hno' : Hid (∀ n, ¬ IsNum s n) := fun n hn => hno _ (num_atoi hn)
    clear hno
    go_wp2_with fail
    go_ret2
    exact parse_no hb1 hno'.out
end Go.Proofs.YtfmafledakchhaaDoor
