/- The law FnExactParseUint returns true for every text: the program's ParseUint and the model's give the same number and the same bool. The library's tables and errors are as the library's text lays them, which the card ties. -/
import Derived.Test.YtfmafledakchhaaDoorRows
import Derived.WalkKit
import Derived.WalkSpells
import Derived.ProofKit
import Derived.OpenShut
import Derived.ShutString
import Derived.ChangeOld
import Derived.Below
import Derived.Lib.Hide
import Derived.Test.YtfmafledakchhaaDoorTie
import Derived.Test.YtfmafledakchhaaDoorCards
import Derived.LaidMore
import Derived.Stop.Joined
import Derived.SevenTiedAt
import Derived.Test.YtfmafledakchhaaDoorParse
namespace Go.Proofs.YtfmafledakchhaaDoor.fnExactParseUint
open Go.ChangeShapes Go.WideShapes Go.ChangeAt Go.RowKit
open Go.ChangeMaps (open_string shut_string)
theorem own : ownKnob Tryd.prog.godebug = none := by kernel_rfl
theorem laidOut : laidOutB Tryd.prog = true := by kernel_rfl
theorem tPow : (Tryd.prog.globals[(3 : Nat)]?).map (·.type) = some 79 := by kernel_rfl
theorem gRange : Tryd.prog.globalNamed "strconv.ErrRange" = some 2 := by kernel_rfl
theorem tRange : (Tryd.prog.globals[(2 : Nat)]?).map (·.type) = some 47 := by kernel_rfl
theorem gSyn : Tryd.prog.globalNamed "strconv.ErrSyntax" = some 1 := by kernel_rfl
theorem tSyn : (Tryd.prog.globals[(1 : Nat)]?).map (·.type) = some 47 := by kernel_rfl
theorem facts_of {W : World} (h : laidMetH Tryd.prog Rows.fnExactParseUintRow.laid W) : PowTab W ∧ ErrVars W := by
  rw [MakeChecks.laidMetH_plain _ _ _ (by kernel_rfl)] at h
  obtain ⟨ps, ⟨g0, t0, cs0, f0, p0, q0, hg0, ht0, hv0, hd0, ⟨g1, t1, cs1, f1, p1, q1, hg1, ht1, hv1, hd1, ⟨g2, t2, cs2, f2, p2, q2, hg2, ht2, hv2, hd2, ⟨g3, t3, cs3, f3, p3, q3, hg3, ht3, hv3, hd3, ⟨g4, t4, cs4, f4, p4, q4, hg4, ht4, hv4, hd4, _⟩, _⟩, _⟩, _⟩, _⟩, _⟩ := h
  have hn2 := hg2
  obtain rfl := Option.some.inj (Eq.trans (Eq.symm (by kernel_rfl : Tryd.prog.globalNamed _ = some 3)) hg2)
  obtain rfl := Option.some.inj (tPow.symm.trans ht2)
  obtain rfl := Option.some.inj (gRange.symm.trans hg3)
  obtain rfl := Option.some.inj (tRange.symm.trans ht3)
  obtain rfl := Option.some.inj (gSyn.symm.trans hg4)
  obtain rfl := Option.some.inj (tSyn.symm.trans ht4)
  refine ⟨?_, ?_, ?_⟩
  · intro nm hnm
    refine tab_named hn2 hnm ?_
    unfold Lib.TabIs
    have hd : DataW.trod _ Tryd.prog W 0 _ false f2 79 cs2.toList = some (Lib.tabData .u64 Lib.pow10Tab, p2) := hd2
    rw [hv2, ← Lib.cells_of_tab Tryd.underlying79 Tryd.underlying66 (by kernel_rfl) (by kernel_rfl) hd]
  · obtain ⟨_, u, v, hcs, _, _⟩ := iface_of_trod Tryd.underlying47 hd4
    have := World.var?_cell gSyn hv4 0
    rw [Array.eq_one_of_toList hcs] at this
    exact ⟨u, v, by simpa using this⟩
  · obtain ⟨_, u, v, hcs, _, _⟩ := iface_of_trod Tryd.underlying47 hd3
    have := World.var?_cell gRange hv3 0
    rw [Array.eq_one_of_toList hcs] at this
    exact ⟨u, v, by simpa using this⟩
set_option maxRecDepth 100000 in
theorem walk_in (a0 : ByteArray) (w : World) (hs : a0.size ≤ 1048576) (hP : PowTab w) (hE : ErrVars w) :
    Calls Tryd.prog 7 #[.string a0] w fun e w' => e = .returned (.bool true) ∧ Below w.heap.size w w' := by
  have hf : ¬ (1048576 : Int) < a0.size := by omega
  have HP := Lib.hid hP
  have HE := Lib.hid hE
  clear hP hE
  have hspec : ∀ W, Calls Tryd.prog 20 #[.string a0] W (ParsePost a0 W) := fun W => by
    by_cases h : a0.size ≤ 10
    · exact specParse a0 W h
    · exact specParse_long a0 W (by omega) hs
  have HS := Lib.hid hspec; clear hspec
  go_enter Tryd.func7, Tryd.ntmps7
  go_wp2_with fail
  refine (HS.out _).mono ?_
  rintro e w1 ⟨hb1, hh⟩
  have HI := Lib.hid (implParse a0 w1 hs (HE.out.below hb1) (HP.out.below hb1))
  rcases hh with ⟨n, hn, rfl⟩ | ⟨hno, rfl⟩
  · have HN := Lib.hid hn; clear hn
    go_wp2_with fail
    refine HI.out.mono ?_
    rintro e w2 ⟨hb2, hk⟩
    have hb := hb1.trans (hb2.mono hb1.size)
    clear hb1 hb2
    rcases hk with ⟨m, hm, rfl⟩ | ⟨hno, rfl⟩
    · obtain rfl : m = n := hm.one HN.out
      clear hm
      go_wp2_with fail
      go_ret
      exact ⟨rfl, hb⟩
    · exact absurd HN.out (hno n)
  · have HN := Lib.hid hno; clear hno
    go_wp2_with fail
    refine HI.out.mono ?_
    rintro e w2 ⟨hb2, hk⟩
    have hb := hb1.trans (hb2.mono hb1.size)
    clear hb1 hb2
    rcases hk with ⟨m, hm, rfl⟩ | ⟨hno, rfl⟩
    · exact absurd hm (HN.out m)
    · clear hno
      go_wp2_with fail
      go_ret
      exact ⟨rfl, hb⟩
theorem walk_far (a0 : ByteArray) (w : World) (ht : 1048576 < a0.size) :
    Calls Tryd.prog 7 #[.string a0] w fun e w' => e = .returned (.bool true) ∧ Below w.heap.size w w' := by
  have hf : (1048576 : Int) < a0.size := by omega
  go_enter Tryd.func7, Tryd.ntmps7
  go_wp2_with fail
  go_ret
  exact ⟨rfl, Below.refl _ _⟩
theorem walk (a0 : ByteArray) (w : World) (w0 : a0.size ≤ maxLen) (hL : laidMetH Tryd.prog Rows.fnExactParseUintRow.laid w) :
    Calls Tryd.prog 7 #[.string a0] w fun e w' => e = .returned (.bool true) ∧ Below w.heap.size w w' := by
  have _ := w0
  by_cases h2 : a0.size ≤ 1048576
  · exact walk_in a0 w h2 (facts_of hL).1 (facts_of hL).2
  · exact walk_far a0 w (by omega)
theorem door_met (os : Os) (args : Array Value) : laidMetH Tryd.prog Rows.fnExactParseUintRow.laid ((World.doorLaid Tryd.prog 400 os).forCall (fun _ _ => 0) ⟨#[], args, []⟩).memory :=
  laidMetH_of_parts3 (fuel := 8) (laidMet_of_run' 8 (by kernel_rfl) (by kernel_rfl)) (by kernel_rfl) (by kernel_rfl)
set_option maxRecDepth 100000 in
theorem lifted (os : Os) (started : os.Started) (H : Type) (enc : TypeId × Value → H) :
    ReturnsInHanded {} Tryd.checked os 7 .any (fun w args => (Rows.fnExactParseUintSpec.pre enc Tryd.prog Tryd.f7 [] false w args ∧ laidMetH Tryd.prog Rows.fnExactParseUintRow.laid w) ∧ sizedMet enc Tryd.prog Tryd.f7 (OpenSpec.ofChange Rows.fnExactParseUintSpec) false w args) (Rows.fnExactParseUintSpec.post enc Tryd.prog Tryd.f7 false true false false) := by
  refine returnsInHanded_of_change_and (C := Tryd.checked) (X := fun w _ => laidMetH Tryd.prog Rows.fnExactParseUintRow.laid w) (fun _ _ _ hh h => h.of_heap hh) own started (by kernel_rfl) Tryd.func7
    (ChangeSpec.witness_shaped (enc := enc) (C := Tryd.checked) (os := os) (X := fun w _ => laidMetH Tryd.prog Rows.fnExactParseUintRow.laid w) false (World.doorLaid Tryd.prog 400 os) #[.string ByteArray.empty] 8 rfl (World.shaped_of_RefB (by kernel_rfl) (by kernel_rfl)) (by kernel_rfl) (by kernel_rfl) (by kernel_rfl) (door_met os _)) ?_
  intro W base args ds gs before hval0 hW _ _ hL _
  have hval : ∀ (j : Nat) t v, Tryd.f7.params[j]? = some t → args[j]? = some v → Value.okWide Tryd.prog W .any base t v := hval0
  have hW' := hW
  obtain ⟨p, q, hA0, hV, rfl, hfz, hnd⟩ := hW
  have hA : DataW.TrodAll enc Tryd.prog W 0 (fun _ => true) true Tryd.f7.params.toList args.toList ds p := hA0
  rw [Tryd.params7] at hA hval
  obtain ⟨v0, vs0, d0, ds0, p0, q0, hargs, rfl, rfl, h0, r0⟩ := trodAll_cons hA
  obtain ⟨rfl, rfl, rfl⟩ := trodAll_nil r0
  obtain rfl : args = #[v0] := by cases args; simp_all
  obtain ⟨rfl, rfl⟩ := trodVars_none hV
  obtain ⟨a0, rfl, rfl, rfl, w0⟩ := open_string Tryd.underlying9 (hval 0 9 v0 rfl rfl) h0
  clear hA0 hval0
  refine (walk a0 W w0 hL).mono fun e W' ⟨he, bel⟩ => ?_
  subst he
  exact ⟨_, rfl, _, _, _, [], _, [], hW', trodAll_mk1 (shut_bool Tryd.underlying4 _), (trodAll_cons_mk (shut_string Tryd.underlying9 w0) trodAll_mk0), rfl, bel.frame _, fun h => by cases h⟩

theorem over : Rows.fnExactParseUintRow.holds Tryd.pinned (OpenSpec.ofChange Rows.fnExactParseUintSpec) :=
  OpenClaim.holds_of_wide 7 Tryd.f7 rfl rfl rfl rfl rfl rfl rfl ⟨rfl, rfl, rfl, rfl, rfl⟩ rfl rfl rfl rfl rfl (by kernel_rfl) Tryd.func7 (by kernel_rfl)
    (of_decide_eq_true (by kernel_rfl)) (by unfold Func.isWrapper; first | (rw [if_pos (by decide +kernel)]; kernel_rfl) | (rw [if_neg (by decide +kernel)]; exact ⟨rfl, rfl⟩))
    (fun os started H enc _ => lifted os started H enc)

theorem proved : Rows.FnExactParseUintCardSaid :=
  Claim7.holds_tied_plain_at .later [] [.data, .data, .data, .sentinel, .sentinel] true (true, "7e813c2feae9f8bb4f3169450ff18b34c914cabd420c5061f40a20de5125a284") true
    over (fun _ h => by cases h) (by kernel_rfl) (fun _ h => by cases h) fnExactParseUint_row_tie rfl ⟨rfl, rfl⟩ (by kernel_rfl) rfl
    (fun f fn hf hfn => by
      obtain rfl : f = 7 := Option.some.inj ((show Tryd.prog.funcNamed Rows.fnExactParseUintRow.func = some 7 by kernel_rfl).symm.trans hf) |>.symm
      obtain rfl : fn = Tryd.f7 := (Option.some.inj (Tryd.func7.symm.trans hfn)).symm
      exact ⟨by kernel_rfl, fun j t ht => by
        rw [Tryd.params7] at ht
        have hm : t ∈ [9] := by simpa using Array.mem_of_getElem? ht
        have hall : ([9].all fun u => !Tryd.prog.wantsStandIn u) = true := by kernel_rfl
        exact (show Tryd.prog.wantsStandIn t = false by simpa using List.all_eq_true.1 hall t hm)⟩)
    (by kernel_rfl)
end Go.Proofs.YtfmafledakchhaaDoor.fnExactParseUint
