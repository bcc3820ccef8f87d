/- SplitFields of the program and of the model: for every line both return the same fields and the same bool (SplitPost says which), in new memory. No condition but the length that every string has. -/
import Derived.Test.YtfmafledakchhaaProg
import Derived.Test.YtfmafledakchhaaBase
import Derived.WalkKit
import Derived.WalkSpells
import Derived.BigQuiet
import Derived.Deep.QuietTactic
import Derived.Deep.Draws
import Derived.Lib.Hide
import Derived.Lib.SmallJoins
import Derived.Lib.Strings
import Derived.Deep.RegionHeld3
import Derived.Maps.AppendAt
import Derived.Maps.RangeWalk
namespace Go.Proofs.Ytfmafledakchhaa
open Go.RowKit
theorem infoU8s : (Try.prog.info? 5).map (fun i => (i.zero, i.size, i.bytes)) = some (some (.int .u8 0), 1, 1) := by kernel_rfl
theorem infoStr : (Try.prog.info? 9).map (fun i => (i.zero, i.size, i.bytes)) = some (some (.string ⟨#[]⟩), 1, 16) := by kernel_rfl
def strs (D : List (List UInt8)) : List Value := D.map fun l => Value.string (bs l)
def byts (C : List UInt8) : List Value := (nums C).map (Value.int .u8)
def addF (D : List (List UInt8)) (C : List UInt8) : List (List UInt8) := if C = [] then D else D ++ [C]
def AddPost (B : Nat) (D : List (List UInt8)) (C : List UInt8) (vc : Value) (w : World) (e : Ending) (w' : World) : Prop :=
  ∃ v', e = .returned v' ∧ w'.ownsRow B 9 1 v' (addF D C).length (strs (addF D C)) ∧ w'.ownsRow B 5 1 vc C.length (byts C) ∧ Below B w w'
set_option maxRecDepth 100000 in
theorem appendField {B : Nat} (vf vc : Value) (D : List (List UInt8)) (C : List UInt8) (w : World) (hf : w.ownsRow B 9 1 vf D.length (strs D)) (hc : w.ownsRow B 5 1 vc C.length (byts C)) (hB : B ≤ w.heap.size) (hD : D.length ≤ 1000) :
    Calls Try.prog 28 #[vf, vc] w (AddPost B D C vc w) := by
  obtain ⟨i0, hi, hz0, hz1, hz2⟩ := info_parts infoStr
  by_cases h0 : C = []
  · subst h0
    have hp : AddPost B D [] vc w (.returned vf) w := ⟨vf, rfl, by simpa [addF] using hf, hc, Below.refl _ _⟩
    have HP := Lib.hid hp; clear hp
    obtain ⟨a, c, rfl⟩ : ∃ a c, vc = .slice a 0 c := by rcases Go.Joins.ownsRow_forms hc with ⟨rfl, _⟩ | ⟨g, cap, rfl⟩ <;> exact ⟨_, _, rfl⟩
    clear hf hc
    go_enter Try.func28, Try.ntmps28
    go_wp2
    go_ret
    exact HP.out
  · have hlen : 0 < C.length := List.length_pos_iff.2 h0
    have hcv := convert_own (P := Try.prog) w 22 5 9 Try.underlying22 Try.underlying5 Try.underlying9 hc
    rw [strOfNums_bs] at hcv
    have hne := own_ne hc hf (by decide)
    obtain ⟨g, cap, rfl⟩ := Go.Joins.ownsRow_form hc hlen
    have hC := Lib.hid hc; clear hc
    have hF := Lib.hid hf; clear hf
    have hN := Lib.hid hne; clear hne
    have hz : ((C.length : Int) == 0) = false := by simp; exact h0
    go_enter Try.func28, Try.ntmps28
    go_wp2_with (at_builtin; refine wpList_append_one rfl (.tmp 9) (.tmp 12) 30 rfl B 9 i0 (.string ⟨#[]⟩) 16 Try.underlying30 hi hz0 hz1 hz2 rfl (by decide) _ _ _ rfl hF.out rfl rfl (by omega) hB ?_; intro g' cap' w1 hown' hgrow hb1)
    have hA : addF D C = D ++ [C] := if_neg h0
    have hp : AddPost B D C (.slice (some ⟨g, 0, none⟩) C.length cap) w (.returned (.slice (some ⟨g', 0, none⟩) (D.length + 1) cap')) w1 := by
      refine ⟨_, rfl, ?_, ?_, hb1⟩
      · rw [hA]; simpa [strs] using hown'
      · exact (hC.out.alloc _).kept hgrow hN.out
    have HP := Lib.hid hp; clear hp hown' hgrow
    go_wp2
    go_ret
    exact HP.out
def stepF (st : List (List UInt8) × List UInt8) (c : UInt8) : List (List UInt8) × List UInt8 := if c = 32 then (addF st.1 st.2, []) else (st.1, st.2 ++ [c])
def scanF (l : List UInt8) : List (List UInt8) × List UInt8 := l.foldl stepF ([], [])
def okc (c : UInt8) : Bool := decide (32 ≤ c.toNat) && decide (c.toNat ≤ 126)
def finF (l : List UInt8) : List (List UInt8) := addF (scanF l).1 (scanF l).2
theorem scanF_snoc (l : List UInt8) (c : UInt8) : scanF (l ++ [c]) = stepF (scanF l) c := by simp [scanF, List.foldl_append]
theorem scanF_len (l : List UInt8) : (scanF l).1.length + (scanF l).2.length ≤ l.length := by
  suffices h : ∀ n (l : List UInt8), l.length = n → (scanF l).1.length + (scanF l).2.length ≤ l.length from h _ l rfl
  intro n
  induction n with
  | zero => intro l hl; obtain rfl := List.eq_nil_of_length_eq_zero hl; simp [scanF]
  | succ n ih0 =>
    intro l hl
    have hne : l ≠ [] := by intro h; simp [h] at hl
    obtain ⟨l, c, rfl⟩ : ∃ l' c, l = l' ++ [c] := ⟨_, _, (List.dropLast_concat_getLast hne).symm⟩
    have ih := ih0 l (by simpa using hl)
    rw [scanF_snoc]
    unfold stepF addF
    by_cases hc : c = 32
    · by_cases h2 : (scanF l).2 = []
      · simp [hc, h2]; omega
      · have : 0 < (scanF l).2.length := List.length_pos_iff.2 h2
        simp [hc, h2]; omega
    · simp [hc]; omega
def splitOk (s : ByteArray) : Bool := decide (s.size ≤ 600) && s.data.toList.all okc && decide ((finF s.data.toList).length ≤ 24)
def fieldsOf (s : ByteArray) : List (List UInt8) := if splitOk s = true then finF s.data.toList else []
def SplitPost (s : ByteArray) (w : World) (e : Ending) (w' : World) : Prop :=
  ∃ v, e = .returned (.tuple #[v, .bool (splitOk s)]) ∧ w'.ownsRow w.heap.size 9 1 v (fieldsOf s).length (strs (fieldsOf s)) ∧ Below w.heap.size w w'
theorem split_no (s : ByteArray) (w w' : World) (v : Value) (h : splitOk s = false) (hv : w'.ownsRow w.heap.size 9 1 v 0 []) (hb : Below w.heap.size w w') : SplitPost s w (.returned (.tuple #[v, .bool false])) w' := by
  refine ⟨v, by rw [h], ?_, hb⟩
  simp [fieldsOf, h, strs]; exact hv
theorem split_yes (s : ByteArray) (w w' : World) (v : Value) (h : splitOk s = true) (hv : w'.ownsRow w.heap.size 9 1 v (finF s.data.toList).length (strs (finF s.data.toList))) (hb : Below w.heap.size w w') : SplitPost s w (.returned (.tuple #[v, .bool true])) w' := by
  refine ⟨v, by rw [h], ?_, hb⟩
  simp only [fieldsOf, h, if_true]; exact hv
theorem not_ok (s : ByteArray) (k : Nat) (hk : k < s.size) (h : okc s[k] = false) : splitOk s = false := by
  have : s.data.toList.all okc = false := List.all_eq_false.2 ⟨s[k], List.getElem_mem (l := s.data.toList) (n := k) (by simpa using hk), by simp [h]⟩
  simp [splitOk, this]
set_option maxRecDepth 100000 in
theorem implSplit_far (s : ByteArray) (w : World) (h : 600 < s.size) (hm : s.size ≤ maxLen) : Calls Try.prog 16 #[.string s] w (SplitPost s w) := by
  have hp := split_no s w w (.slice none 0 0) (by simp [splitOk, show ¬ s.size ≤ 600 by omega]) (World.ownsRow_nil _ _ _ _) (Below.refl _ _)
  have HP := Lib.hid hp; clear hp
  unfold maxLen at hm
  have hf : (600 : Int) < s.size := by omega
  go_enter Try.func16, Try.ntmps16
  go_wp2
  go_step3
  go_wp2
  rw [Exit.noGoto_ret]
  go_ret2
  exact HP.out
set_option maxHeartbeats 1000000 in
set_option maxRecDepth 100000 in
theorem implSplit (s : ByteArray) (w : World) (hs : s.size ≤ 600) : Calls Try.prog 16 #[.string s] w (SplitPost s w) := by
  obtain ⟨i0, hi, hz0, hz1, hz2⟩ := info_parts infoU8s
  have hf : ¬ (600 : Int) < s.size := by omega
  have hf11 : decide ((600 : Int) < s.size) = false := decide_eq_false hf
  go_enter Try.func16, Try.ntmps16
  go_wp2_with fail
  go_step3
  go_wp2_with fail
  go_step3
  go_wp2_with fail
  go_loopw [4, 5, 6, 16] (fun vf vc vb ci wr => ∃ (k g cap : Nat) (D : List (List UInt8)) (C : List UInt8), k ≤ s.size ∧ ci = .int .i64 k ∧ vb = .bool true ∧ Hid (scanF (s.data.toList.take k) = (D, C)) ∧ Hid ((s.data.toList.take k).all okc = true) ∧
      vc = .slice (some ⟨g, 0, none⟩) C.length cap ∧ Hid (wr.ownsRow w.heap.size 9 1 vf D.length (strs D)) ∧ Hid (wr.ownsRow w.heap.size 5 1 (.slice (some ⟨g, 0, none⟩) C.length cap) C.length (byts C)) ∧ Below w.heap.size w wr)
    (fun _ _ _ ci _ => s.size - (intOf ci).toNat)
  case atStart =>
    refine ⟨0, w.heap.size + 1, 0, [], [], Nat.zero_le _, rfl, rfl, rfl, rfl, rfl, ?_, ?_, ?_⟩
    · exact (World.ownsRow_made w #[] 0 (Nat.le_refl _) (Nat.zero_le _) rfl).alloc _
    · have h : ((w.alloc (.cells #[] 9)).alloc (.cells #[] 5)).ownsRow w.heap.size 5 1 (.slice (some ⟨(w.alloc (.cells #[] 9)).heap.size, 0, none⟩) 0 0) 0 [] := World.ownsRow_made _ _ 0 (by simp) (Nat.zero_le _) rfl
      rw [World.size_alloc] at h
      exact h
    · exact ((Below.refl w.heap.size w).alloc (Nat.le_refl _) _).alloc (by simp) _
  case round =>
    obtain ⟨k, g, cap, D, C, hk, rfl, rfl, HS, HA, rfl, HF, HC, hb⟩ := hrel
    have hbz := hb.size
    by_cases hlt : k < s.size
    · have h0 : (0 : Int) ≤ (k : Int) := by omega
      have h1 : (k : Int) < (s.size : Int) := by omega
      have hts := take_snoc s k hlt
      have hno := not_ok s k hlt
      obtain ⟨c, hc⟩ : ∃ c, s[k] = c := ⟨_, rfl⟩
      rw [hc] at hts hno
      have HT := Lib.hid hts; clear hts
      have HNO := Lib.hid hno; clear hno
      have hDC : Hid (D.length + C.length ≤ k) := by
        unfold Hid
        have := scanF_len (s.data.toList.take k)
        rw [HS.out, List.length_take] at this
        simp at this; omega
      have hcb : (c.toNat : Int) < 256 := by have := c.toNat_lt; omega
      by_cases c1 : (c.toNat : Int) < 32
      · have hbad : Hid (splitOk s = false) := by unfold Hid; exact HNO.out (by simp [okc]; omega)
        have e1 : decide ((c.toNat : Int) < 32) = true := decide_eq_true c1
        go_wp2_with fail
        refine (appendField _ _ D C _ HF.out HC.out (by exact hbz) (by have := hDC.out; omega)).mono ?_
        rintro e w1 ⟨vf', rfl, hf1, hc1, hb1⟩
        have hb2 := hb.trans hb1
        clear hb1 hf1 hc1
        go_wp2
        try rw [Exit.noGoto_ret]
        go_ret2
        exact split_no s w w1 _ hbad.out (World.ownsRow_nil _ _ _ _) hb2
      · by_cases c2 : (126 : Int) < (c.toNat : Int)
        · have hbad : Hid (splitOk s = false) := by unfold Hid; exact HNO.out (by simp [okc]; omega)
          go_wp2_with fail
          refine (appendField _ _ D C _ HF.out HC.out (by exact hbz) (by have := hDC.out; omega)).mono ?_
          rintro e w1 ⟨vf', rfl, hf1, hc1, hb1⟩
          have hb2 := hb.trans hb1
          clear hb1 hf1 hc1
          go_wp2
          try rw [Exit.noGoto_ret]
          go_ret2
          exact split_no s w w1 _ hbad.out (World.ownsRow_nil _ _ _ _) hb2
        · by_cases c3 : (c.toNat : Int) = 32
          · have e3 : ((c.toNat : Int) == 32) = true := by simpa using c3
            have hA0 : Hid (okc c = true) := by unfold Hid; simp [okc]; omega
            have hc32 : Hid (c = 32) := UInt8.toNat_inj.1 (by show c.toNat = 32; omega)
            clear c3
            go_wp2_with fail
            refine (appendField _ _ D C _ HF.out HC.out (by exact hbz) (by have := hDC.out; omega)).mono ?_
            rintro e w1 ⟨vf', rfl, hf1, hc1, hb1⟩
            have HF1 := Lib.hid hf1; clear hf1
            have HC1 := Lib.hid hc1; clear hc1
            have hb2 := hb.trans hb1
            clear hb1
            have hz := own_zero HC1.out
            have HZ := Lib.hid hz; clear hz
            have hS' : Hid (scanF (s.data.toList.take (k + 1)) = (addF D C, [])) := by
              unfold Hid
              rw [HT.out, scanF_snoc, HS.out]
              simp [stepF, hc32.out]
            have hA' : Hid ((s.data.toList.take (k + 1)).all okc = true) := by
              unfold Hid
              rw [HT.out, List.all_append, HA.out]; simp [hA0.out]
            go_wp2
            go_roundw
            case rel => exact ⟨k + 1, g, cap, addF D C, [], by omega, by go_num, rfl, hS', hA', rfl, HF1, HZ, hb2⟩
            case measure => simp [intOf]; omega
          · have e3 : ((c.toNat : Int) == 32) = false := by simpa using c3
            have hA0 : Hid (okc c = true) := by unfold Hid; simp [okc]; omega
            have hS' : Hid (scanF (s.data.toList.take (k + 1)) = (D, C ++ [c])) := by
              unfold Hid
              rw [HT.out, scanF_snoc, HS.out]
              have : ¬ c = 32 := by intro h; subst h; exact c3 rfl
              simp [stepF, this]
            have hA' : Hid ((s.data.toList.take (k + 1)).all okc = true) := by
              unfold Hid
              rw [HT.out, List.all_append, HA.out]; simp [hA0.out]
            have hsz : Hid (C.length ≤ 1000000000) := by unfold Hid; have := hDC.out; omega
            have hne := own_ne HF.out HC.out (by decide)
            have HNE := Lib.hid hne; clear hne
            clear c3
            go_wp2_with (at_builtin; refine wpList_append_one rfl (.tmp 22) (.tmp 24) 22 rfl w.heap.size 5 i0 (.int .u8 0) 1 Try.underlying22 hi hz0 hz1 hz2 rfl (by decide) _ _ _ rfl HC.out rfl rfl hsz.out hbz ?_; intro g' cap' w1 hown' hgrow hb1)
            have hF1 : Hid (w1.ownsRow w.heap.size 9 1 u4 D.length (strs D)) := (HF.out.alloc _).kept hgrow HNE.out
            have hC1 : Hid (w1.ownsRow w.heap.size 5 1 (.slice (some ⟨g', 0, none⟩) (C ++ [c]).length cap') (C ++ [c]).length (byts (C ++ [c]))) := by
              unfold Hid
              simpa [byts, nums] using hown'
            have hb2 : Below w.heap.size w w1 := hb.trans hb1
            have hl : Hid ((C ++ [c]).length = C.length + 1) := by unfold Hid; simp
            clear hown' hgrow hb1
            go_wp2
            go_roundw
            case rel => exact ⟨k + 1, g', cap', D, C ++ [c], by omega, by go_num, rfl, hS', hA', by rw [hl.out], hF1, hC1, hb2⟩
            case measure => simp [intOf]; omega
    · obtain rfl : k = s.size := by omega
      have hfin : Hid (finF s.data.toList = addF D C) := by
        unfold Hid finF
        have := HS.out
        rw [take_all] at this
        rw [this]
      have hall : Hid (s.data.toList.all okc = true) := by have := HA.out; rw [take_all] at this; exact this
      have hDC : Hid (D.length + C.length ≤ s.size) := by
        unfold Hid
        have := scanF_len (s.data.toList.take s.size)
        rw [HS.out, List.length_take] at this
        simp at this; omega
      go_wp2_with fail
      refine (appendField _ _ D C _ HF.out HC.out (by exact hbz) (by have := hDC.out; omega)).mono ?_
      rintro e w1 ⟨vf', rfl, hf1, hc1, hb1⟩
      have hb2 := hb.trans hb1
      rw [← hfin.out] at hf1
      clear hb1 hc1
      obtain ⟨a, cc, rfl⟩ : ∃ a c, vf' = .slice a (finF s.data.toList).length c := by rcases Go.Joins.ownsRow_forms hf1 with ⟨rfl, h⟩ | ⟨g, cap, rfl⟩ <;> first | exact ⟨_, _, rfl⟩ | exact ⟨none, 0, by rw [h]⟩
      have hlen : Hid ((finF s.data.toList).length ≤ 1000) := by
        unfold Hid
        rw [hfin.out]; have := hDC.out; unfold addF; split <;> simp <;> omega
      have HF1 := Lib.hid hf1; clear hf1
      by_cases h24 : (finF s.data.toList).length ≤ 24
      · have hok : Hid (splitOk s = true) := by unfold Hid; simp [splitOk, hs, h24]; simpa using hall.out
        generalize hL : (finF s.data.toList).length = L at *
        have HL := Lib.hid hL; clear hL
        go_wp2
        try rw [Exit.noGoto_ret]
        go_ret2
        exact split_yes s w w1 _ hok.out (by rw [HL.out]; exact HF1.out) hb2
      · have hbad : Hid (splitOk s = false) := by unfold Hid; simp [splitOk, h24]
        have hl2 := hlen.out
        generalize hL : (finF s.data.toList).length = L at *
        have HL := Lib.hid hL; clear hL
        go_wp2
        try rw [Exit.noGoto_ret]
        go_ret2
        exact split_no s w w1 _ hbad.out (World.ownsRow_nil _ _ _ _) hb2
theorem ext_snoc (s : ByteArray) (b k : Nat) (C : List UInt8) (h : s.extract b k = bs C) (hb : b ≤ k) (hk : k < s.size) : s.extract b (k + 1) = bs (C ++ [s[k]]) := by
  have h1 : C = (s.data.toList.drop b).take (k - b) := by
    have : (s.extract b k).data.toList = C := by rw [h]; simp [bs]
    rw [← this, Lib.extract_data]
  apply ByteArray.ext
  apply Array.toList_inj.1
  rw [Lib.extract_data]
  have h2 : (s.data.toList.drop b).take (k + 1 - b) = (s.data.toList.drop b).take (k - b) ++ [s[k]] := by
    rw [show k + 1 - b = (k - b) + 1 by omega, List.take_succ_eq_append_getElem (by simp; exact (by omega : k - b < s.size - b))]
    congr 2
    rw [List.getElem_drop]
    simp [show b + (k - b) = k by omega]; rfl
  rw [h2, ← h1]
  simp [bs]
theorem ext_nil (s : ByteArray) (k : Nat) : s.extract k k = bs [] := by
  apply ByteArray.ext
  apply Array.toList_inj.1
  rw [Lib.extract_data]
  simp [bs]
set_option maxRecDepth 100000 in
theorem specSplit_far (s : ByteArray) (w : World) (h : 600 < s.size) (hm : s.size ≤ maxLen) : Calls Try.prog 15 #[.string s] w (SplitPost s w) := by
  have hp := split_no s w (w.alloc (.cells #[] 9)) (.slice (some ⟨w.heap.size, 0, none⟩) 0 0) (by simp [splitOk, show ¬ s.size ≤ 600 by omega]) (World.ownsRow_made w #[] 0 (Nat.le_refl _) (Nat.zero_le _) rfl) ((Below.refl w.heap.size w).alloc (Nat.le_refl _) _)
  have HP := Lib.hid hp; clear hp
  unfold maxLen at hm
  have hf : (600 : Int) < s.size := by omega
  go_enter Try.func15, Try.ntmps15
  go_wp2
  go_ret2
  exact HP.out
def stS (s : ByteArray) (k : Nat) : List (List UInt8) × List UInt8 := if k ≤ s.size then scanF (s.data.toList.take k) else (finF s.data.toList, [])
theorem stS_flush (s : ByteArray) (k : Nat) (D : List (List UInt8)) (C : List UInt8) (hk : k ≤ s.size) (h : stS s k = (D, C)) (hsp : ∀ h : k < s.size, s[k] = 32) : stS s (k + 1) = (addF D C, []) := by
  have h' : scanF (s.data.toList.take k) = (D, C) := by unfold stS at h; rwa [if_pos hk] at h
  by_cases hlt : k < s.size
  · unfold stS
    rw [if_pos (by omega), take_snoc s k hlt, scanF_snoc, h', hsp hlt]
    rfl
  · obtain rfl : k = s.size := by omega
    unfold stS
    rw [if_neg (by omega)]
    rw [take_all] at h'
    simp only [finF, h']
theorem stS_keep (s : ByteArray) (k : Nat) (D : List (List UInt8)) (C : List UInt8) (hk : k < s.size) (h : stS s k = (D, C)) (hsp : s[k] ≠ 32) : stS s (k + 1) = (D, C ++ [s[k]]) := by
  have h' : scanF (s.data.toList.take k) = (D, C) := by unfold stS at h; rwa [if_pos (by omega)] at h
  unfold stS
  rw [if_pos (by omega), take_snoc s k hk, scanF_snoc, h']
  simp [stepF, hsp]
theorem stS_len (s : ByteArray) (k : Nat) (D : List (List UInt8)) (C : List UInt8) (hk : k ≤ s.size) (h : stS s k = (D, C)) : D.length + C.length ≤ k := by
  have h' : scanF (s.data.toList.take k) = (D, C) := by unfold stS at h; rwa [if_pos hk] at h
  have := scanF_len (s.data.toList.take k)
  rw [h', List.length_take] at this
  simp at this; omega
set_option maxHeartbeats 1000000 in
set_option maxRecDepth 100000 in
theorem specSplit (s : ByteArray) (w : World) (hs : s.size ≤ 600) : Calls Try.prog 15 #[.string s] w (SplitPost s w) := by
  obtain ⟨i0, hi, hz0, hz1, hz2⟩ := info_parts infoStr
  have hf : ¬ (600 : Int) < s.size := by omega
  have hf11 : decide ((600 : Int) < s.size) = false := decide_eq_false hf
  go_enter Try.func15, Try.ntmps15
  go_wp2_with fail
  go_loopw [4, 5, 6] (fun v bi ci wr => ∃ (k b : Nat) (D : List (List UInt8)) (C : List UInt8), k ≤ s.size + 1 ∧ ci = .int .i64 k ∧ bi = .int .i64 b ∧ b + C.length = k ∧ Hid (stS s k = (D, C)) ∧ Hid ((s.data.toList.take k).all okc = true) ∧ Hid (s.extract b k = bs C) ∧
      Hid (wr.ownsRow w.heap.size 9 1 v D.length (strs D)) ∧ Below w.heap.size w wr)
    (fun _ _ ci _ => s.size + 1 - (intOf ci).toNat)
  case atStart =>
    refine ⟨0, 0, [], [], Nat.zero_le _, rfl, rfl, rfl, ?_, rfl, ext_nil s 0, ?_, ?_⟩
    · unfold Hid stS; rw [if_pos (Nat.zero_le _)]; rfl
    · exact World.ownsRow_made w #[] 0 (Nat.le_refl _) (Nat.zero_le _) rfl
    · exact (Below.refl w.heap.size w).alloc (Nat.le_refl _) _
  case round =>
    obtain ⟨k, b, D, C, hk, rfl, rfl, hbk, HS, HA, HX, HF, hb⟩ := hrel
    have HBK := Lib.hid hbk
    have hbk1 : b ≤ k := by omega
    clear hbk
    have hbz := hb.size
    by_cases hle : k ≤ s.size
    · have hDC := stS_len s k D C hle HS.out
      have hD1 : Hid (D.length ≤ 1000000000) := by unfold Hid; omega
      clear hDC
      have g0 : (k : Int) ≤ (s.size : Int) := by omega
      by_cases hlt : k < s.size
      · have h0 : (0 : Int) ≤ (k : Int) := by omega
        have h1 : (k : Int) < (s.size : Int) := by omega
        have hts := take_snoc s k hlt
        have hno := not_ok s k hlt
        have hkp := stS_keep s k D C hlt HS.out
        have hfl := stS_flush s k D C hle HS.out
        have hxs := ext_snoc s b k C HX.out hbk1 hlt
        obtain ⟨c, hc⟩ : ∃ c, s[k] = c := ⟨_, rfl⟩
        rw [hc] at hts hno hkp hxs
        have hfl' : c = 32 → stS s (k + 1) = (addF D C, []) := fun h => hfl (fun _ => by rw [hc]; exact h)
        clear hfl
        have HT := Lib.hid hts; clear hts
        have HNO := Lib.hid hno; clear hno
        have HKP := Lib.hid hkp; clear hkp
        have HFL := Lib.hid hfl'; clear hfl'
        have HXS := Lib.hid hxs; clear hxs
        have hcb : (c.toNat : Int) < 256 := by have := c.toNat_lt; omega
        by_cases c1 : (c.toNat : Int) < 32
        · have hbad : Hid (splitOk s = false) := by unfold Hid; exact HNO.out (by simp [okc]; omega)
          go_wp2_with fail
          go_ret2
          exact split_no s w _ _ hbad.out (World.ownsRow_made (base := w.heap.size) wr #[] 0 hbz (Nat.zero_le _) rfl) (hb.alloc hbz _)
        · by_cases c2 : (126 : Int) < (c.toNat : Int)
          · have hbad : Hid (splitOk s = false) := by unfold Hid; exact HNO.out (by simp [okc]; omega)
            go_wp2_with fail
            go_ret2
            exact split_no s w _ _ hbad.out (World.ownsRow_made (base := w.heap.size) wr #[] 0 hbz (Nat.zero_le _) rfl) (hb.alloc hbz _)
          · have hA0 : Hid (okc c = true) := by unfold Hid; simp [okc]; omega
            have hA' : Hid ((s.data.toList.take (k + 1)).all okc = true) := by
              unfold Hid
              rw [HT.out, List.all_append, HA.out]; simp [hA0.out]
            by_cases c3 : (c.toNat : Int) = 32
            · have e3 : ((c.toNat : Int) != 32) = false := by simpa using c3
              have hc32 : c = 32 := UInt8.toNat_inj.1 (by show c.toNat = 32; omega)
              have hS' : Hid (stS s (k + 1) = (addF D C, [])) := HFL.out hc32
              clear c3 hc32
              by_cases hC : C = []
              · have eb : ¬ b < k := by have := HBK.out; rw [hC] at this; simp at this; omega
                have hF' : Hid (wr.ownsRow w.heap.size 9 1 u4 (addF D C).length (strs (addF D C))) := by unfold Hid addF; rw [if_pos hC]; exact HF.out
                go_wp2_with fail
                go_roundw
                case rel => exact ⟨k + 1, k + 1, addF D C, [], by omega, by go_num, by go_num, rfl, hS', hA', ext_nil s (k + 1), hF', hb⟩
                case measure => simp [intOf]; omega
              · have eb : b < k := by have := HBK.out; have := List.length_pos_iff.2 hC; omega
                have hx : s.extract b k = bs C := HX.out
                go_wp2_with (at_builtin; refine wpList_append_one rfl (.tmp 48) (.tmp 53) 30 rfl w.heap.size 9 i0 (.string ⟨#[]⟩) 16 Try.underlying30 hi hz0 hz1 hz2 rfl (by decide) _ _ _ rfl HF.out rfl rfl hD1.out hbz ?_; intro g' cap' w1 hown' hgrow hb1)
                have hF' : Hid (w1.ownsRow w.heap.size 9 1 (.slice (some ⟨g', 0, none⟩) (D.length + 1) cap') (addF D C).length (strs (addF D C))) := by unfold Hid addF; rw [if_neg hC]; simpa [strs] using hown'
                have hb2 := hb.trans hb1
                clear hown' hgrow hb1
                go_wp2_with fail
                go_roundw
                case rel => exact ⟨k + 1, k + 1, addF D C, [], by omega, by go_num, by go_num, rfl, hS', hA', ext_nil s (k + 1), hF', hb2⟩
                case measure => simp [intOf]; omega
            · have e3 : ((c.toNat : Int) != 32) = true := by simpa using c3
              have hc32 : c ≠ 32 := by intro h; subst h; exact c3 rfl
              have hS' : Hid (stS s (k + 1) = (D, C ++ [c])) := HKP.out hc32
              clear hc32 c3
              go_wp2_with fail
              go_roundw
              case rel => exact ⟨k + 1, b, D, C ++ [c], by omega, by go_num, rfl, by have := HBK.out; simp; omega, hS', hA', HXS.out, HF.out, hb⟩
              case measure => simp [intOf]; omega
      · obtain rfl : k = s.size := by omega
        have hS' : Hid (stS s (s.size + 1) = (addF D C, [])) := stS_flush s s.size D C hle HS.out (fun h => absurd h hlt)
        have hA' : Hid ((s.data.toList.take (s.size + 1)).all okc = true) := by
          unfold Hid
          have := HA.out
          rw [take_all] at this
          rwa [List.take_of_length_le (by simp)]
        by_cases hC : C = []
        · have eb : ¬ b < s.size := by have := HBK.out; rw [hC] at this; simp at this; omega
          have hF' : Hid (wr.ownsRow w.heap.size 9 1 u4 (addF D C).length (strs (addF D C))) := by unfold Hid addF; rw [if_pos hC]; exact HF.out
          go_wp2_with fail
          go_roundw
          case rel => exact ⟨s.size + 1, s.size + 1, addF D C, [], by omega, by go_num, by go_num, rfl, hS', hA', ext_nil s (s.size + 1), hF', hb⟩
          case measure => simp [intOf]
        · have eb : b < s.size := by have := HBK.out; have := List.length_pos_iff.2 hC; omega
          have hx : s.extract b s.size = bs C := HX.out
          go_wp2_with (at_builtin; refine wpList_append_one rfl (.tmp 48) (.tmp 53) 30 rfl w.heap.size 9 i0 (.string ⟨#[]⟩) 16 Try.underlying30 hi hz0 hz1 hz2 rfl (by decide) _ _ _ rfl HF.out rfl rfl hD1.out hbz ?_; intro g' cap' w1 hown' hgrow hb1)
          have hF' : Hid (w1.ownsRow w.heap.size 9 1 (.slice (some ⟨g', 0, none⟩) (D.length + 1) cap') (addF D C).length (strs (addF D C))) := by unfold Hid addF; rw [if_neg hC]; simpa [strs] using hown'
          have hb2 := hb.trans hb1
          clear hown' hgrow hb1
          go_wp2_with fail
          go_roundw
          case rel => exact ⟨s.size + 1, s.size + 1, addF D C, [], by omega, by go_num, by go_num, rfl, hS', hA', ext_nil s (s.size + 1), hF', hb2⟩
          case measure => simp [intOf]
    · obtain rfl : k = s.size + 1 := by omega
      have hst : stS s (s.size + 1) = (finF s.data.toList, []) := by unfold stS; rw [if_neg (by omega)]
      have hD : finF s.data.toList = D := by have := HS.out; rw [hst] at this; exact congrArg Prod.fst this
      have hall : Hid (s.data.toList.all okc = true) := by have := HA.out; rwa [List.take_of_length_le (by simp)] at this
      have hlen : D.length ≤ 1000 := by
        rw [← hD]
        unfold finF addF
        have := scanF_len s.data.toList
        simp at this
        split <;> simp <;> omega
      have hok : Hid (splitOk s = decide (D.length ≤ 24)) := by
        unfold Hid splitOk
        rw [hD, hall.out]; simp [hs]
      have HD := Lib.hid hD; clear hD hst
      obtain ⟨a, cc, rfl⟩ : ∃ a c, u4 = .slice a D.length c := by rcases Go.Joins.ownsRow_forms HF.out with ⟨rfl, h⟩ | ⟨g, cap, rfl⟩ <;> first | exact ⟨_, _, rfl⟩ | exact ⟨none, 0, by rw [h]⟩
      by_cases h24 : D.length ≤ 24
      · have hok2 : Hid (splitOk s = true) := by unfold Hid; rw [hok.out]; simpa using h24
        have hp : Hid (SplitPost s w (.returned (.tuple #[.slice a D.length cc, .bool true])) wr) := split_yes s w wr _ hok2.out (by rw [HD.out]; exact HF.out) hb
        go_wp2_with fail
        go_ret2
        exact hp.out
      · have hbad : Hid (splitOk s = false) := by unfold Hid; rw [hok.out]; simpa using h24
        go_wp2_with fail
        go_ret2
        exact split_no s w _ _ hbad.out (World.ownsRow_made (base := w.heap.size) wr #[] 0 hbz (Nat.zero_le _) rfl) (hb.alloc hbz _)
end Go.Proofs.Ytfmafledakchhaa
