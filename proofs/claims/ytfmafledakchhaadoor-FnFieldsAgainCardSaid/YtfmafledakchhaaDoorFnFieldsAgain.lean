/- The law FnFieldsAgain returns true for every code: the fields of a line, joined by single spaces, have the same fields. The library's tables are as the library's text lays them, which the card ties. -/
import Derived.Test.YtfmafledakchhaaDoorRows
import Derived.WalkKit
import Derived.WalkSpells
import Derived.ProofKit
import Derived.OpenShut
import Derived.ShutString
import Derived.ChangeOld
import Derived.Below
import Derived.Lib.Hide
import Derived.Test.YtfmafledakchhaaDoorTie
import Derived.Test.YtfmafledakchhaaDoorCards
import Derived.LaidMore
import Derived.Stop.Joined
import Derived.SevenTiedAt
import Derived.Test.YtfmafledakchhaaDoorFormat
import Derived.Test.YtfmafledakchhaaDoorFieldsMath
import Derived.Test.YtfmafledakchhaaDoorSameTexts
import Derived.Test.YtfmafledakchhaaDoorDrawFields
import Derived.Test.YtfmafledakchhaaDoorLaw
namespace Go.Proofs.YtfmafledakchhaaDoor.fnFieldsAgain
open Go.ChangeShapes Go.WideShapes Go.ChangeAt Go.RowKit
open Go.ChangeMaps (open_string shut_string)
theorem own : ownKnob Tryd.prog.godebug = none := by kernel_rfl
theorem laidOut : laidOutB Tryd.prog = true := by kernel_rfl
/-- What the walk is told of a slice of integers that came in. -/
def IsRow (k : IntKind) (w : World) (a : Option Addr) (len cap : Nat) (zs : List Int) : Prop :=
  (a = none ∧ len = 0 ∧ cap = 0 ∧ zs = []) ∨
  ∃ x, a = some x ∧ len ≤ cap ∧ cap ≤ maxLen ∧ zs.length = cap ∧ (∀ i, i < zs.length → w.cell? (x.add i) = some (.int k (zs.getD i 0))) ∧ ∀ n ∈ zs, (Lit.int k n).wf = true
theorem tPow : (Tryd.prog.globals[(3 : Nat)]?).map (·.type) = some 79 := by kernel_rfl
theorem pow_of {W : World} (h : laidMetH Tryd.prog Rows.fnFieldsAgainRow.laid W) : PowTab W := by
  rw [MakeChecks.laidMetH_plain _ _ _ (by kernel_rfl)] at h
  obtain ⟨ps, ⟨g0, t0, cs0, f0, p0, q0, hg0, ht0, hv0, hd0, ⟨g1, t1, cs1, f1, p1, q1, hg1, ht1, hv1, hd1, ⟨g2, t2, cs2, f2, p2, q2, hg2, ht2, hv2, hd2, _⟩, _⟩, _⟩, _⟩ := h
  have hn2 := hg2
  obtain rfl := Option.some.inj (Eq.trans (Eq.symm (by kernel_rfl : Tryd.prog.globalNamed _ = some 3)) hg2)
  obtain rfl := Option.some.inj (tPow.symm.trans ht2)
  intro nm hnm
  refine tab_named hn2 hnm ?_
  unfold Lib.TabIs
  have hd : DataW.trod _ Tryd.prog W 0 _ false f2 79 cs2.toList = some (Lib.tabData .u64 Lib.pow10Tab, p2) := hd2
  rw [hv2, ← Lib.cells_of_tab Tryd.underlying79 Tryd.underlying66 (by kernel_rfl) (by kernel_rfl) hd]
theorem strs_map (D : List (List UInt8)) : strs D = (D.map bs).map Value.string := by simp [strs, Function.comp_def]
theorem spec_any (s : ByteArray) (w : World) (hm : s.size ≤ maxLen) : Calls Tryd.prog 17 #[.string s] w (SplitPost s w) := by
  by_cases h1 : s.size ≤ 600
  · exact specSplit s w h1
  · exact specSplit_far s w (by omega) hm
theorem impl_any (s : ByteArray) (w : World) (hm : s.size ≤ maxLen) : Calls Tryd.prog 16 #[.string s] w (SplitPost s w) := by
  by_cases h1 : s.size ≤ 600
  · exact implSplit s w h1
  · exact implSplit_far s w (by omega) hm
theorem three (w : World) (ht : PowTab w) : Calls Tryd.prog 11 #[.int .i64 (-3)] w fun e w' => e = .returned (.string ⟨#[45, 51]⟩) ∧ Below w.heap.size w w' := by
  refine (implFmt (-3) w (by omega) (by omega) ht).mono ?_
  rintro e w' ⟨rfl, hb⟩
  refine ⟨?_, hb⟩
  have : Lib.itoa (-3) = [45, 51] := by
    have := Lib.itoa_neg 3 (by omega)
    rw [Lib.decDigits_one (by omega)] at this
    exact this
  rw [this]; rfl
set_option maxHeartbeats 2000000 in
set_option maxRecDepth 100000 in
theorem walk_in {a0 : Option Addr} {len cap : Nat} (w : World) (hcode : CodeAt w a0 len) (hP : PowTab w) :
    Calls Tryd.prog 5 #[.slice a0 len cap] w fun e w' => e = .returned (.bool true) ∧ Below w.heap.size w w' := by
  have HCO := Lib.hid hcode
  have HP := Lib.hid hP
  clear hcode hP
  go_enter Tryd.func5, Tryd.ntmps5
  go_wp2_with fail
  refine (big_no _ HCO.out.1).mono ?_
  rintro e w' ⟨rfl, rfl⟩
  go_wp2_with fail
  refine (drawFields w HCO.out).mono ?_
  rintro e w1 ⟨s, hs, rfl, hb1⟩
  have hm : Hid (s.size ≤ maxLen) := by unfold Hid maxLen; omega
  clear hs
  go_wp2_with fail
  refine (impl_any s w1 hm.out).mono ?_
  rintro e w2 ⟨v, rfl, ho2, hb2⟩
  have HO2 := Lib.hid ho2; clear ho2
  have hbb2 := hb1.trans (hb2.mono hb1.size)
  go_wp2_with fail
  refine (spec_any s w2 hm.out).mono ?_
  rintro e w3 ⟨v3, rfl, _, hb3⟩
  have HO3 := Lib.hid (own_below HO2.out hb3)
  have hbb3 := hbb2.trans (hb3.mono hbb2.size)
  have HP3 := Lib.hid (HP.out.below hbb3)
  clear hb1 hb2 hb3 hbb2 HO2
  cases hok : splitOk s with
  | false =>
    have hF : fieldsOf s = [] := by unfold fieldsOf; rw [if_neg (by rw [hok]; exact Bool.false_ne_true)]
    have ho := HO3.out
    rw [hF] at ho
    obtain ⟨a, c, rfl⟩ : ∃ a c, v = .slice a 0 c := by rcases Go.Joins.ownsRow_forms ho with ⟨rfl, _⟩ | ⟨g, cap, rfl⟩ <;> exact ⟨_, _, rfl⟩
    clear ho hF HO3 hok
    have HT := Lib.hid (three w3 HP3.out)
    go_wp2_with fail
    refine HT.out.mono ?_
    rintro e w4 ⟨rfl, hb4⟩
    have hbb := hbb3.trans (hb4.mono hbb3.size)
    go_wp2_with fail
    go_ret
    exact ⟨rfl, hbb⟩
  | true =>
    have HOK := Lib.hid hok; clear hok
    have hjl := fields_join_len s HOK.out
    have hag := again s HOK.out
    have HAG := Lib.hid hag; clear hag
    generalize hF : fieldsOf s = F at *
    have HF := Lib.hid hF; clear hF
    obtain ⟨n, hn⟩ : ∃ n, F.length = n := ⟨_, rfl⟩
    have hn24 : n ≤ 24 := by
      rw [← hn, ← HF.out]
      have eF : fieldsOf s = finF s.data.toList := by unfold fieldsOf; rw [if_pos HOK.out]
      rw [eF]; exact (split_parts s HOK.out).2.2
    have HN := Lib.hid hn; clear hn
    have ho4 := HO3.out
    rw [HN.out] at ho4
    have HO4 := Lib.hid ho4; clear HO3
    obtain ⟨a, c, rfl⟩ : ∃ a c, v = .slice a n c := by rcases Go.Joins.ownsRow_forms ho4 with ⟨rfl, h⟩ | ⟨g, cap, rfl⟩ <;> first | exact ⟨_, _, rfl⟩ | exact ⟨none, 0, by rw [h]⟩
    clear ho4
    go_wp2_with fail
    go_loop [8, 9] (fun t i => ∃ (k : Nat), k ≤ n ∧ i = .int .i64 k ∧ t = .string (bs (joinF (F.take k)))) (fun _ i => n - (intOf i).toNat)
    case atStart => exact ⟨0, Nat.zero_le _, rfl, rfl⟩
    case round =>
      obtain ⟨k, hk, rfl, rfl⟩ := hrel
      by_cases hlt : k < n
      · have h0 : (0 : Int) ≤ (k : Int) := by omega
        have h1 : (k : Int) < (n : Int) := by omega
        obtain ⟨g, rfl⟩ : ∃ g, a = some ⟨g, 0, none⟩ := by
          rcases Go.Joins.ownsRow_forms HO4.out with ⟨h, h2⟩ | ⟨g, cap, h⟩
          · omega
          · cases h; exact ⟨g, rfl⟩
        have hkF : k < F.length := by rw [HN.out]; exact hlt
        obtain ⟨f, hf⟩ : ∃ f, F[k]? = some f := ⟨_, List.getElem?_eq_getElem hkF⟩
        have hc := own_cell HO4.out k hlt (.string (bs f)) (by unfold strs; rw [List.getElem?_map, hf]; rfl)
        have htk : F.take (k + 1) = F.take k ++ [f] := by
          rw [List.take_succ_eq_append_getElem hkF]
          rw [List.getElem?_eq_getElem hkF] at hf
          cases hf; rfl
        have hjk : bs (joinF (F.take k)) ++ bs f ++ (⟨#[32]⟩ : ByteArray) = bs (joinF (F.take (k + 1))) := by
          rw [htk, joinF_snoc, show (⟨#[32]⟩ : ByteArray) = bs [32] from rfl, bs_append, bs_append, List.append_assoc]
        have hz1 : (bs (joinF (F.take (k + 1)))).size ≤ 601 := by
          rw [bs_size]; exact Nat.le_trans (join_take_le F (k + 1)) hjl
        have hz2 : (bs (joinF (F.take k))).size + (bs f).size + 1 ≤ 601 := by
          rw [← hjk, ByteArray.size_append, ByteArray.size_append] at hz1
          exact hz1
        have HJK := Lib.hid hjk
        clear hjk htk hz1 hf hkF hjl
        generalize bs (joinF (F.take k)) = s1 at *
        generalize bs f = s2 at *
        have hz3 : (s1 ++ s2).size = s1.size + s2.size := ByteArray.size_append
        go_wp2_with fail
        go_round
        case rel => exact ⟨k + 1, by omega, by go_num, by rw [HJK.out]⟩
        case measure => simp [intOf]; omega
      · obtain rfl : k = n := by omega
        have htk : F.take k = F := List.take_of_length_le (by rw [HN.out]; exact Nat.le_refl _)
        rw [htk]
        have hz : (bs (joinF F)).size ≤ 601 := by rw [bs_size]; exact hjl
        have HZ : Hid ((bs (joinF F)).size ≤ maxLen) := by unfold Hid maxLen; omega
        clear htk hjl
        go_wp2_with fail
        refine (impl_any (bs (joinF F)) w3 HZ.out).mono ?_
        rintro e w4 ⟨q, rfl, ho5, hb4⟩
        have hbb := hbb3.trans (hb4.mono hbb3.size)
        have HO6 := Lib.hid (own_below HO4.out hb4)
        by_cases h6 : (bs (joinF F)).size ≤ 600
        · obtain ⟨e1, e2⟩ := HAG.out h6
          rw [e2, HN.out] at ho5
          rw [e1]
          have HO5 := Lib.hid ho5; clear ho5 e1 e2 hb4
          have h6i : ¬ (600 : Int) < ((bs (joinF F)).size : Int) := by omega
          generalize bs (joinF F) = t at *
          rw [strs_map] at HO5 HO6
          have HS := Lib.hid (sameT (.slice a k c) q (F.map bs) w4 (by rw [List.length_map, HN.out]) (by omega) HO6.out HO5.out)
          go_wp2_with fail
          refine HS.out.mono ?_
          rintro e w5 ⟨rfl, q5, rfl⟩
          have hbb5 := hbb.trans ((drewN_belowS w4 q5).mono hbb.size)
          generalize w4.drewN q5 = w5 at *
          go_wp2_with fail
          go_ret
          exact ⟨rfl, hbb5⟩
        · have h6i : (600 : Int) < ((bs (joinF F)).size : Int) := by omega
          clear ho5
          generalize bs (joinF F) = t at *
          go_wp2_with fail
          go_ret
          exact ⟨rfl, hbb⟩
theorem walk_far {a0 : Option Addr} {len cap : Nat} (w : World) (h : 1048576 < len) :
    Calls Tryd.prog 5 #[.slice a0 len cap] w fun e w' => e = .returned (.bool true) ∧ Below w.heap.size w w' := by
  go_enter Tryd.func5, Tryd.ntmps5
  go_wp2_with fail
  refine (big_yes _ h).mono ?_
  rintro e w' ⟨rfl, rfl⟩
  go_wp2_with fail
  go_ret
  exact ⟨rfl, Below.refl _ _⟩
theorem walk (a0 : Option Addr) (len0 cap0 : Nat) (z0 : List Int) (w : World) (w0 : IsRow .u8 w a0 len0 cap0 z0) (hL : laidMetH Tryd.prog Rows.fnFieldsAgainRow.laid w) :
    Calls Tryd.prog 5 #[.slice a0 len0 cap0] w fun e w' => e = .returned (.bool true) ∧ Below w.heap.size w w' := by
  by_cases h2 : len0 ≤ 1048576
  · exact walk_in w (code_of w0 h2) (pow_of hL)
  · exact walk_far w (by omega)
theorem door_met (os : Os) (args : Array Value) : laidMetH Tryd.prog Rows.fnFieldsAgainRow.laid ((World.doorLaid Tryd.prog 400 os).forCall (fun _ _ => 0) ⟨#[], args, []⟩).memory :=
  laidMetH_of_parts3 (fuel := 8) (laidMet_of_run' 8 (by kernel_rfl) (by kernel_rfl)) (by kernel_rfl) (by kernel_rfl)
set_option maxRecDepth 100000 in
theorem lifted (os : Os) (started : os.Started) (H : Type) (enc : TypeId × Value → H) :
    ReturnsInHanded {} Tryd.checked os 5 .any (fun w args => (Rows.fnFieldsAgainSpec.pre enc Tryd.prog Tryd.f5 [] false w args ∧ laidMetH Tryd.prog Rows.fnFieldsAgainRow.laid w) ∧ sizedMet enc Tryd.prog Tryd.f5 (OpenSpec.ofChange Rows.fnFieldsAgainSpec) false w args) (Rows.fnFieldsAgainSpec.post enc Tryd.prog Tryd.f5 false true false false) := by
  refine returnsInHanded_of_change_and (C := Tryd.checked) (X := fun w _ => laidMetH Tryd.prog Rows.fnFieldsAgainRow.laid w) (fun _ _ _ hh h => h.of_heap hh) own started (by kernel_rfl) Tryd.func5
    (ChangeSpec.witness_shaped (enc := enc) (C := Tryd.checked) (os := os) (X := fun w _ => laidMetH Tryd.prog Rows.fnFieldsAgainRow.laid w) false (World.doorLaid Tryd.prog 400 os) #[.slice none 0 0] 8 rfl (World.shaped_of_RefB (by kernel_rfl) (by kernel_rfl)) (by kernel_rfl) (by kernel_rfl) (by kernel_rfl) (door_met os _)) ?_
  intro W base args ds gs before hval0 hW _ _ hL _
  have hval : ∀ (j : Nat) t v, Tryd.f5.params[j]? = some t → args[j]? = some v → Value.okWide Tryd.prog W .any base t v := hval0
  have hW' := hW
  obtain ⟨p, q, hA0, hV, rfl, hfz, hnd⟩ := hW
  have hA : DataW.TrodAll enc Tryd.prog W 0 (fun _ => true) true Tryd.f5.params.toList args.toList ds p := hA0
  rw [Tryd.params5] at hA hval
  obtain ⟨v0, vs0, d0, ds0, p0, q0, hargs, rfl, rfl, h0, r0⟩ := trodAll_cons hA
  obtain ⟨rfl, rfl, rfl⟩ := trodAll_nil r0
  obtain rfl : args = #[v0] := by cases args; simp_all
  obtain ⟨rfl, rfl⟩ := trodVars_none hV
  obtain ⟨a0, len0, cap0, rfl⟩ := okWide_slice Tryd.underlying22 (hval 0 22 v0 rfl rfl)
  have k0 := h0
  have lt0 : ∀ x ∈ p0, x.block < W.heap.size := by obtain ⟨m, hm⟩ := k0; exact DataW.trod_lt m _ _ _ hm
  obtain ⟨z0, w0⟩ : ∃ zs, IsRow .u8 W a0 len0 cap0 zs := by
    obtain ⟨fuel, hf⟩ := h0
    rcases open_ints Tryd.underlying22 Tryd.underlying5 (by kernel_rfl) hf with ⟨hcs, _⟩ | ⟨x, l, c, zs, hcs, _, hl, hm, hz, _, hcell, hwz⟩
    · simp [Value.cells] at hcs
      obtain ⟨rfl, rfl, rfl⟩ := hcs
      exact ⟨[], .inl ⟨rfl, rfl, rfl, rfl⟩⟩
    · simp [Value.cells] at hcs
      obtain ⟨rfl, rfl, rfl⟩ := hcs
      exact ⟨zs, .inr ⟨_, rfl, hl, hm, by simpa using hz, hcell, hwz⟩⟩
  clear hA0 hval0
  refine (walk a0 len0 cap0 z0 W w0 hL).mono fun e W' ⟨he, bel⟩ => ?_
  subst he
  exact ⟨_, rfl, _, _, _, [], _, [], hW', trodAll_mk1 (shut_bool Tryd.underlying4 _), (trodAll_cons_mk (Below.trod laidOut (by kernel_rfl) (of_decide_eq_true (by kernel_rfl)) k0 bel lt0) trodAll_mk0), rfl, bel.frame _, fun h => by cases h⟩

theorem over : Rows.fnFieldsAgainRow.holds Tryd.pinned (OpenSpec.ofChange Rows.fnFieldsAgainSpec) :=
  OpenClaim.holds_of_wide 5 Tryd.f5 rfl rfl rfl rfl rfl rfl rfl ⟨rfl, rfl, rfl, rfl, rfl⟩ rfl rfl rfl rfl rfl (by kernel_rfl) Tryd.func5 (by kernel_rfl)
    (of_decide_eq_true (by kernel_rfl)) (by unfold Func.isWrapper; first | (rw [if_pos (by decide +kernel)]; kernel_rfl) | (rw [if_neg (by decide +kernel)]; exact ⟨rfl, rfl⟩))
    (fun os started H enc _ => lifted os started H enc)

theorem proved : Rows.FnFieldsAgainCardSaid :=
  Claim7.holds_tied_plain_at .later [] [.data, .data, .data] true (true, "7e813c2feae9f8bb4f3169450ff18b34c914cabd420c5061f40a20de5125a284") true
    over (fun _ h => by cases h) (by kernel_rfl) (fun _ h => by cases h) fnFieldsAgain_row_tie rfl ⟨rfl, rfl⟩ (by kernel_rfl) rfl
    (fun f fn hf hfn => by
      obtain rfl : f = 5 := Option.some.inj ((show Tryd.prog.funcNamed Rows.fnFieldsAgainRow.func = some 5 by kernel_rfl).symm.trans hf) |>.symm
      obtain rfl : fn = Tryd.f5 := (Option.some.inj (Tryd.func5.symm.trans hfn)).symm
      exact ⟨by kernel_rfl, fun j t ht => by
        rw [Tryd.params5] at ht
        have hm : t ∈ [22] := by simpa using Array.mem_of_getElem? ht
        have hall : ([22].all fun u => !Tryd.prog.wantsStandIn u) = true := by kernel_rfl
        exact (show Tryd.prog.wantsStandIn t = false by simpa using List.all_eq_true.1 hall t hm)⟩)
    (by kernel_rfl)
end Go.Proofs.YtfmafledakchhaaDoor.fnFieldsAgain
