/- The law FnHexText returns true for every code: a text can be decoded from its hexadecimal encoding, and a longer one is rejected. The library's tables are as the library's text lays them, which the card ties. -/
import Derived.Test.YtfmafledakchhaaDoorRows
import Derived.WalkKit
import Derived.WalkSpells
import Derived.ProofKit
import Derived.OpenShut
import Derived.ShutString
import Derived.ChangeOld
import Derived.Below
import Derived.Lib.Hide
import Derived.Test.YtfmafledakchhaaDoorTie
import Derived.Test.YtfmafledakchhaaDoorCards
import Derived.LaidMore
import Derived.Stop.Joined
import Derived.SevenTiedAt
import Derived.Test.YtfmafledakchhaaDoorFormat
import Derived.Test.YtfmafledakchhaaDoorDrawText
import Derived.Test.YtfmafledakchhaaDoorHexEnc
import Derived.Test.YtfmafledakchhaaDoorHexDec
import Derived.Test.YtfmafledakchhaaDoorLaw
namespace Go.Proofs.YtfmafledakchhaaDoor.fnHexText
open Go.ChangeShapes Go.WideShapes Go.ChangeAt Go.RowKit
open Go.ChangeMaps (open_string shut_string)
theorem own : ownKnob Tryd.prog.godebug = none := by kernel_rfl
theorem laidOut : laidOutB Tryd.prog = true := by kernel_rfl
/-- What the walk is told of a slice of integers that came in. -/
def IsRow (k : IntKind) (w : World) (a : Option Addr) (len cap : Nat) (zs : List Int) : Prop :=
  (a = none ∧ len = 0 ∧ cap = 0 ∧ zs = []) ∨
  ∃ x, a = some x ∧ len ≤ cap ∧ cap ≤ maxLen ∧ zs.length = cap ∧ (∀ i, i < zs.length → w.cell? (x.add i) = some (.int k (zs.getD i 0))) ∧ ∀ n ∈ zs, (Lit.int k n).wf = true
theorem tPow : (Tryd.prog.globals[(3 : Nat)]?).map (·.type) = some 79 := by kernel_rfl
theorem pow_of {W : World} (h : laidMetH Tryd.prog Rows.fnHexTextRow.laid W) : PowTab W := by
  rw [MakeChecks.laidMetH_plain _ _ _ (by kernel_rfl)] at h
  obtain ⟨ps, ⟨g0, t0, cs0, f0, p0, q0, hg0, ht0, hv0, hd0, ⟨g1, t1, cs1, f1, p1, q1, hg1, ht1, hv1, hd1, ⟨g2, t2, cs2, f2, p2, q2, hg2, ht2, hv2, hd2, _⟩, _⟩, _⟩, _⟩ := h
  have hn2 := hg2
  obtain rfl := Option.some.inj (Eq.trans (Eq.symm (by kernel_rfl : Tryd.prog.globalNamed _ = some 3)) hg2)
  obtain rfl := Option.some.inj (tPow.symm.trans ht2)
  intro nm hnm
  refine tab_named hn2 hnm ?_
  unfold Lib.TabIs
  have hd : DataW.trod _ Tryd.prog W 0 _ false f2 79 cs2.toList = some (Lib.tabData .u64 Lib.pow10Tab, p2) := hd2
  rw [hv2, ← Lib.cells_of_tab Tryd.underlying79 Tryd.underlying66 (by kernel_rfl) (by kernel_rfl) hd]
theorem encN_len (l : List UInt8) : (encN l).length = 2 * l.length := by
  induction l with
  | nil => rfl
  | cons c r ih => simp only [encN, List.length_cons, ih]; omega
theorem enc_size (s : ByteArray) : (encS s).size = 2 * s.size := by
  unfold encS
  rw [strOfNums_size, encN_len]
  rfl
theorem encN_at : ∀ (l : List UInt8) (k : Nat) (h : k < l.length), (encN l)[2 * k]? = some (figN (l[k].toNat / 16) : Int) ∧ (encN l)[2 * k + 1]? = some (figN (l[k].toNat % 16) : Int) := by
  intro l
  induction l with
  | nil => intro k h; simp at h
  | cons c r ih =>
    intro k h
    cases k with
    | zero => simp [encN]
    | succ k =>
      have := ih k (by simpa using h)
      rw [show 2 * (k + 1) = 2 * k + 1 + 1 by omega]
      simpa [encN] using this
theorem fig_val (x : Nat) (h : x < 16) : valN (UInt8.ofNat (figN x)).toNat = (x : Int) := by
  have e : (UInt8.ofNat (figN x)).toNat = figN x := by
    rw [UInt8.toNat_ofNat']
    unfold figN; split <;> omega
  rw [e]
  unfold valN figN
  split <;> (repeat' split) <;> omega
theorem bt_enc (s : ByteArray) (k : Nat) (h : k < s.size) : valN (bt (encS s) (2 * k)).toNat = ((s[k].toNat / 16 : Nat) : Int) ∧ valN (bt (encS s) (2 * k + 1)).toNat = ((s[k].toNat % 16 : Nat) : Int) := by
  have hl : k < s.data.toList.length := by simpa using h
  obtain ⟨h1, h2⟩ := encN_at s.data.toList k hl
  have hb : (s.data.toList[k]).toNat < 256 := (s.data.toList[k]).toNat_lt
  have e : s[k] = s.data.toList[k] := rfl
  rw [e]
  generalize s.data.toList[k] = c at *
  unfold bt encS
  rw [strOfNums_data]
  constructor
  · rw [List.getD, List.getElem?_map, h1]
    exact fig_val _ (by omega)
  · rw [List.getD, List.getElem?_map, h2]
    exact fig_val _ (by omega)
theorem dec_enc_ok (s : ByteArray) (h : s.size ≤ 20000) : decOk (encS s) = true := by
  refine decOk_all _ (by rw [enc_size]; omega) (by rw [enc_size]; omega) ?_
  intro j hj
  rw [enc_size] at hj
  obtain ⟨h1, h2⟩ := bt_enc s j (by omega)
  unfold goodB
  rw [h1, h2]
  simp
  omega
theorem dec_enc (s : ByteArray) : strOfNums (decNums (encS s) ((encS s).size / 2)) = s := by
  have e : decNums (encS s) ((encS s).size / 2) = nums s.data.toList := by
    rw [enc_size, show 2 * s.size / 2 = s.size by omega]
    unfold decNums nums
    apply List.ext_getElem
    · simp
    · intro i hi1 hi2
      have hi : i < s.size := by simpa using hi1
      obtain ⟨h1, h2⟩ := bt_enc s i hi
      simp only [List.getElem_map, List.getElem_range]
      unfold numB
      rw [h1, h2]
      have e2 : s[i] = s.data.toList[i] := rfl
      rw [← e2]
      omega
  rw [e, strOfNums_nums]
theorem impl_dec (s : ByteArray) (w : World) (hs : s.size ≤ 20000) : Calls Tryd.prog 12 #[.string (encS s)] w fun e w' => e = .returned (.tuple #[.string s, .bool true]) ∧ Below w.heap.size w w' := by
  refine (implDec (encS s) w (by rw [enc_size]; omega) (by rw [enc_size]; omega)).mono ?_
  intro e w' ⟨h1, _, hb⟩
  have := h1 (dec_enc_ok s hs)
  rw [dec_enc] at this
  exact ⟨this, hb⟩
theorem ten (w : World) (ht : PowTab w) : Calls Tryd.prog 11 #[.int .i64 10] w fun e w' => e = .returned (.string ⟨#[49, 48]⟩) ∧ Below w.heap.size w w' := by
  refine (implFmt 10 w (by omega) (by omega) ht).mono ?_
  rintro e w' ⟨rfl, hb⟩
  refine ⟨?_, hb⟩
  have : Lib.itoa 10 = [49, 48] := by
    have := Lib.itoa_nonneg 10
    rw [Lib.decDigits_two (by omega) (by omega)] at this
    exact this
  rw [this]; rfl
set_option maxHeartbeats 1000000 in
set_option maxRecDepth 100000 in
theorem walk_in {a0 : Option Addr} {len cap : Nat} (w : World) (hcode : CodeAt w a0 len) (hP : PowTab w) :
    Calls Tryd.prog 3 #[.slice a0 len cap] w fun e w' => e = .returned (.bool true) ∧ Below w.heap.size w w' := by
  have HCO := Lib.hid hcode
  have HP := Lib.hid hP
  clear hcode hP
  go_enter Tryd.func3, Tryd.ntmps3
  go_wp2_with fail
  refine (big_no _ HCO.out.1).mono ?_
  rintro e w' ⟨rfl, rfl⟩
  go_wp2_with fail
  refine (drawEnc w HCO.out).mono ?_
  rintro e w1 ⟨s, hs, rfl, hb1⟩
  have HP1 := Lib.hid (HP.out.below hb1)
  have HT := Lib.hid (ten w1 HP1.out)
  by_cases h : s.size ≤ 20000
  · have hf : ¬ (20000 : Int) < (s.size : Int) := by omega
    have HE := Lib.hid (implEnc s w1 h)
    go_wp2_with fail
    refine HE.out.mono ?_
    rintro e w2 ⟨rfl, hb2⟩
    have hb := hb1.trans (hb2.mono hb1.size)
    clear hb1 hb2
    have HD := Lib.hid (impl_dec s w2 h)
    have hz := enc_size s
    generalize encS s = t at *
    have hzi : (t.size : Int) = 2 * (s.size : Int) := by omega
    have HZ := Lib.hid hzi; clear hzi hz
    go_wp2_with fail
    refine HD.out.mono ?_
    rintro e w3 ⟨rfl, hb3⟩
    have hbb := hb.trans (hb3.mono hb.size)
    clear hb hb3
    have hzi := HZ.out
    go_wp2_with fail
    go_ret
    exact ⟨rfl, hbb⟩
  · have hf : (20000 : Int) < (s.size : Int) := by omega
    have HE := Lib.hid (implEnc_long s w1 (by omega) (by unfold maxLen; omega))
    go_wp2_with fail
    refine HE.out.mono ?_
    rintro e w2 ⟨rfl, rfl⟩
    go_wp2_with fail
    refine HT.out.mono ?_
    rintro e w3 ⟨rfl, hb3⟩
    have hbb := hb1.trans (hb3.mono hb1.size)
    go_wp2_with fail
    go_ret
    exact ⟨rfl, hbb⟩
theorem walk_far {a0 : Option Addr} {len cap : Nat} (w : World) (h : 1048576 < len) :
    Calls Tryd.prog 3 #[.slice a0 len cap] w fun e w' => e = .returned (.bool true) ∧ Below w.heap.size w w' := by
  go_enter Tryd.func3, Tryd.ntmps3
  go_wp2_with fail
  refine (big_yes _ h).mono ?_
  rintro e w' ⟨rfl, rfl⟩
  go_wp2_with fail
  go_ret
  exact ⟨rfl, Below.refl _ _⟩
theorem walk (a0 : Option Addr) (len0 cap0 : Nat) (z0 : List Int) (w : World) (w0 : IsRow .u8 w a0 len0 cap0 z0) (hL : laidMetH Tryd.prog Rows.fnHexTextRow.laid w) :
    Calls Tryd.prog 3 #[.slice a0 len0 cap0] w fun e w' => e = .returned (.bool true) ∧ Below w.heap.size w w' := by
  by_cases h2 : len0 ≤ 1048576
  · exact walk_in w (code_of w0 h2) (pow_of hL)
  · exact walk_far w (by omega)
theorem door_met (os : Os) (args : Array Value) : laidMetH Tryd.prog Rows.fnHexTextRow.laid ((World.doorLaid Tryd.prog 400 os).forCall (fun _ _ => 0) ⟨#[], args, []⟩).memory :=
  laidMetH_of_parts3 (fuel := 8) (laidMet_of_run' 8 (by kernel_rfl) (by kernel_rfl)) (by kernel_rfl) (by kernel_rfl)
set_option maxRecDepth 100000 in
theorem lifted (os : Os) (started : os.Started) (H : Type) (enc : TypeId × Value → H) :
    ReturnsInHanded {} Tryd.checked os 3 .any (fun w args => (Rows.fnHexTextSpec.pre enc Tryd.prog Tryd.f3 [] false w args ∧ laidMetH Tryd.prog Rows.fnHexTextRow.laid w) ∧ sizedMet enc Tryd.prog Tryd.f3 (OpenSpec.ofChange Rows.fnHexTextSpec) false w args) (Rows.fnHexTextSpec.post enc Tryd.prog Tryd.f3 false true false false) := by
  refine returnsInHanded_of_change_and (C := Tryd.checked) (X := fun w _ => laidMetH Tryd.prog Rows.fnHexTextRow.laid w) (fun _ _ _ hh h => h.of_heap hh) own started (by kernel_rfl) Tryd.func3
    (ChangeSpec.witness_shaped (enc := enc) (C := Tryd.checked) (os := os) (X := fun w _ => laidMetH Tryd.prog Rows.fnHexTextRow.laid w) false (World.doorLaid Tryd.prog 400 os) #[.slice none 0 0] 8 rfl (World.shaped_of_RefB (by kernel_rfl) (by kernel_rfl)) (by kernel_rfl) (by kernel_rfl) (by kernel_rfl) (door_met os _)) ?_
  intro W base args ds gs before hval0 hW _ _ hL _
  have hval : ∀ (j : Nat) t v, Tryd.f3.params[j]? = some t → args[j]? = some v → Value.okWide Tryd.prog W .any base t v := hval0
  have hW' := hW
  obtain ⟨p, q, hA0, hV, rfl, hfz, hnd⟩ := hW
  have hA : DataW.TrodAll enc Tryd.prog W 0 (fun _ => true) true Tryd.f3.params.toList args.toList ds p := hA0
  rw [Tryd.params3] at hA hval
  obtain ⟨v0, vs0, d0, ds0, p0, q0, hargs, rfl, rfl, h0, r0⟩ := trodAll_cons hA
  obtain ⟨rfl, rfl, rfl⟩ := trodAll_nil r0
  obtain rfl : args = #[v0] := by cases args; simp_all
  obtain ⟨rfl, rfl⟩ := trodVars_none hV
  obtain ⟨a0, len0, cap0, rfl⟩ := okWide_slice Tryd.underlying22 (hval 0 22 v0 rfl rfl)
  have k0 := h0
  have lt0 : ∀ x ∈ p0, x.block < W.heap.size := by obtain ⟨m, hm⟩ := k0; exact DataW.trod_lt m _ _ _ hm
  obtain ⟨z0, w0⟩ : ∃ zs, IsRow .u8 W a0 len0 cap0 zs := by
    obtain ⟨fuel, hf⟩ := h0
    rcases open_ints Tryd.underlying22 Tryd.underlying5 (by kernel_rfl) hf with ⟨hcs, _⟩ | ⟨x, l, c, zs, hcs, _, hl, hm, hz, _, hcell, hwz⟩
    · simp [Value.cells] at hcs
      obtain ⟨rfl, rfl, rfl⟩ := hcs
      exact ⟨[], .inl ⟨rfl, rfl, rfl, rfl⟩⟩
    · simp [Value.cells] at hcs
      obtain ⟨rfl, rfl, rfl⟩ := hcs
      exact ⟨zs, .inr ⟨_, rfl, hl, hm, by simpa using hz, hcell, hwz⟩⟩
  clear hA0 hval0
  refine (walk a0 len0 cap0 z0 W w0 hL).mono fun e W' ⟨he, bel⟩ => ?_
  subst he
  exact ⟨_, rfl, _, _, _, [], _, [], hW', trodAll_mk1 (shut_bool Tryd.underlying4 _), (trodAll_cons_mk (Below.trod laidOut (by kernel_rfl) (of_decide_eq_true (by kernel_rfl)) k0 bel lt0) trodAll_mk0), rfl, bel.frame _, fun h => by cases h⟩

theorem over : Rows.fnHexTextRow.holds Tryd.pinned (OpenSpec.ofChange Rows.fnHexTextSpec) :=
  OpenClaim.holds_of_wide 3 Tryd.f3 rfl rfl rfl rfl rfl rfl rfl ⟨rfl, rfl, rfl, rfl, rfl⟩ rfl rfl rfl rfl rfl (by kernel_rfl) Tryd.func3 (by kernel_rfl)
    (of_decide_eq_true (by kernel_rfl)) (by unfold Func.isWrapper; first | (rw [if_pos (by decide +kernel)]; kernel_rfl) | (rw [if_neg (by decide +kernel)]; exact ⟨rfl, rfl⟩))
    (fun os started H enc _ => lifted os started H enc)

theorem proved : Rows.FnHexTextCardSaid :=
  Claim7.holds_tied_plain_at .later [] [.data, .data, .data] true (true, "7e813c2feae9f8bb4f3169450ff18b34c914cabd420c5061f40a20de5125a284") true
    over (fun _ h => by cases h) (by kernel_rfl) (fun _ h => by cases h) fnHexText_row_tie rfl ⟨rfl, rfl⟩ (by kernel_rfl) rfl
    (fun f fn hf hfn => by
      obtain rfl : f = 3 := Option.some.inj ((show Tryd.prog.funcNamed Rows.fnHexTextRow.func = some 3 by kernel_rfl).symm.trans hf) |>.symm
      obtain rfl : fn = Tryd.f3 := (Option.some.inj (Tryd.func3.symm.trans hfn)).symm
      exact ⟨by kernel_rfl, fun j t ht => by
        rw [Tryd.params3] at ht
        have hm : t ∈ [22] := by simpa using Array.mem_of_getElem? ht
        have hall : ([22].all fun u => !Tryd.prog.wantsStandIn u) = true := by kernel_rfl
        exact (show Tryd.prog.wantsStandIn t = false by simpa using List.all_eq_true.1 hall t hm)⟩)
    (by kernel_rfl)
end Go.Proofs.YtfmafledakchhaaDoor.fnHexText
