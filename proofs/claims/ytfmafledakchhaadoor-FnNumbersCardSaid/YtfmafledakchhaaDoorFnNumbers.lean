/- The law FnNumbers returns true for every code: just the numbers from 0 to MaxUint are read back from their decimal text. The library's tables and errors are as the library's text lays them, which the card ties. -/
import Derived.Test.YtfmafledakchhaaDoorRows
import Derived.WalkKit
import Derived.WalkSpells
import Derived.ProofKit
import Derived.OpenShut
import Derived.ShutString
import Derived.ChangeOld
import Derived.Below
import Derived.Lib.Hide
import Derived.Test.YtfmafledakchhaaDoorTie
import Derived.Test.YtfmafledakchhaaDoorCards
import Derived.LaidMore
import Derived.Stop.Joined
import Derived.SevenTiedAt
import Derived.Test.YtfmafledakchhaaDoorParse
import Derived.Test.YtfmafledakchhaaDoorDrawFmt
import Derived.Test.YtfmafledakchhaaDoorLaw
namespace Go.Proofs.YtfmafledakchhaaDoor.fnNumbers
open Go.ChangeShapes Go.WideShapes Go.ChangeAt Go.RowKit
open Go.ChangeMaps (open_string shut_string)
theorem own : ownKnob Tryd.prog.godebug = none := by kernel_rfl
theorem laidOut : laidOutB Tryd.prog = true := by kernel_rfl
/-- What the walk is told of a slice of integers that came in. -/
def IsRow (k : IntKind) (w : World) (a : Option Addr) (len cap : Nat) (zs : List Int) : Prop :=
  (a = none ∧ len = 0 ∧ cap = 0 ∧ zs = []) ∨
  ∃ x, a = some x ∧ len ≤ cap ∧ cap ≤ maxLen ∧ zs.length = cap ∧ (∀ i, i < zs.length → w.cell? (x.add i) = some (.int k (zs.getD i 0))) ∧ ∀ n ∈ zs, (Lit.int k n).wf = true
theorem tPow : (Tryd.prog.globals[(3 : Nat)]?).map (·.type) = some 79 := by kernel_rfl
theorem gRange : Tryd.prog.globalNamed "strconv.ErrRange" = some 2 := by kernel_rfl
theorem tRange : (Tryd.prog.globals[(2 : Nat)]?).map (·.type) = some 47 := by kernel_rfl
theorem gSyn : Tryd.prog.globalNamed "strconv.ErrSyntax" = some 1 := by kernel_rfl
theorem tSyn : (Tryd.prog.globals[(1 : Nat)]?).map (·.type) = some 47 := by kernel_rfl
theorem facts_of {W : World} (h : laidMetH Tryd.prog Rows.fnNumbersRow.laid W) : PowTab W ∧ ErrVars W := by
  rw [MakeChecks.laidMetH_plain _ _ _ (by kernel_rfl)] at h
  obtain ⟨ps, ⟨g0, t0, cs0, f0, p0, q0, hg0, ht0, hv0, hd0, ⟨g1, t1, cs1, f1, p1, q1, hg1, ht1, hv1, hd1, ⟨g2, t2, cs2, f2, p2, q2, hg2, ht2, hv2, hd2, ⟨g3, t3, cs3, f3, p3, q3, hg3, ht3, hv3, hd3, ⟨g4, t4, cs4, f4, p4, q4, hg4, ht4, hv4, hd4, _⟩, _⟩, _⟩, _⟩, _⟩, _⟩ := h
  have hn2 := hg2
  obtain rfl := Option.some.inj (Eq.trans (Eq.symm (by kernel_rfl : Tryd.prog.globalNamed _ = some 3)) hg2)
  obtain rfl := Option.some.inj (tPow.symm.trans ht2)
  obtain rfl := Option.some.inj (gRange.symm.trans hg3)
  obtain rfl := Option.some.inj (tRange.symm.trans ht3)
  obtain rfl := Option.some.inj (gSyn.symm.trans hg4)
  obtain rfl := Option.some.inj (tSyn.symm.trans ht4)
  refine ⟨?_, ?_, ?_⟩
  · intro nm hnm
    refine tab_named hn2 hnm ?_
    unfold Lib.TabIs
    have hd : DataW.trod _ Tryd.prog W 0 _ false f2 79 cs2.toList = some (Lib.tabData .u64 Lib.pow10Tab, p2) := hd2
    rw [hv2, ← Lib.cells_of_tab Tryd.underlying79 Tryd.underlying66 (by kernel_rfl) (by kernel_rfl) hd]
  · obtain ⟨_, u, v, hcs, _, _⟩ := iface_of_trod Tryd.underlying47 hd4
    have := World.var?_cell gSyn hv4 0
    rw [Array.eq_one_of_toList hcs] at this
    exact ⟨u, v, by simpa using this⟩
  · obtain ⟨_, u, v, hcs, _, _⟩ := iface_of_trod Tryd.underlying47 hd3
    have := World.var?_cell gRange hv3 0
    rw [Array.eq_one_of_toList hcs] at this
    exact ⟨u, v, by simpa using this⟩
theorem itoa_ne (n : Int) : Lib.itoa n ≠ [] := by
  unfold Lib.itoa
  split
  · simp
  · exact digits_ne _
/-- A numeral up to MaxUint is the numeral of that number alone. -/
theorem num_of {n : Int} {m : Nat} (h : IsNum (bs (Lib.itoa n)) m) : n = m := by
  have hd := h.data
  have e : (bs (Lib.itoa n)).data.toList = Lib.itoa n := by simp [bs]
  rw [e] at hd
  by_cases hn : n < 0
  · unfold Lib.itoa at hd
    rw [if_pos hn] at hd
    have := digits_ok m 45 (by rw [← hd]; simp)
    exact absurd this.1 (by decide)
  · unfold Lib.itoa at hd
    rw [if_neg hn] at hd
    have := val_digits m
    rw [← hd, val_digits] at this
    omega
set_option maxHeartbeats 1000000 in
set_option maxRecDepth 100000 in
theorem walk_in {a0 : Option Addr} {len cap : Nat} (w : World) (hcode : CodeAt w a0 len) (hP : PowTab w) (hE : ErrVars w) :
    Calls Tryd.prog 4 #[.slice a0 len cap] w fun e w' => e = .returned (.bool true) ∧ Below w.heap.size w w' := by
  have HCO := Lib.hid hcode
  have HP := Lib.hid hP
  have HE := Lib.hid hE
  clear hcode hP hE
  go_enter Tryd.func4, Tryd.ntmps4
  go_wp2_with fail
  refine (big_no _ HCO.out.1).mono ?_
  rintro e w' ⟨rfl, rfl⟩
  go_wp2_with fail
  refine (drawFmt w HCO.out).mono ?_
  rintro e w1 ⟨n, n0, n1, rfl, hb1⟩
  have HP1 := Lib.hid (HP.out.below hb1)
  have HE1 := Lib.hid (HE.out.below hb1)
  have HI := Lib.hid (implFmt n w1 n0 n1 HP1.out)
  have hln : Hid ((bs (Lib.itoa n)).size ≤ 1048576) := by
    unfold Hid
    rw [bs_size]
    have := Lib.itoa_length_le n n0 n1
    omega
  clear n0 n1
  go_wp2_with fail
  refine HI.out.mono ?_
  rintro e w2 ⟨rfl, hb2⟩
  have HP2 := Lib.hid (HP1.out.below hb2)
  have HE2 := Lib.hid (HE1.out.below hb2)
  have hb := hb1.trans (hb2.mono hb1.size)
  clear hb1 hb2
  have HR := Lib.hid (implParse (bs (Lib.itoa n)) w2 hln.out HE2.out HP2.out)
  have hne : (bs (Lib.itoa n)).toList = [] → False := by
    intro h
    rw [ByteArray.toList_eq] at h
    exact itoa_ne n (by simpa [bs] using h)
  have HNE := Lib.hid hne; clear hne
  have hnum : Hid (∀ m, IsNum (bs (Lib.itoa n)) m → n = m) := fun m h => num_of h
  have hnum2 : Hid (∀ m : Nat, m ≤ 1000000000 → n = m → IsNum (bs (Lib.itoa n)) m) := fun m h e => ⟨h, by rw [e]⟩
  generalize bs (Lib.itoa n) = t at HR HNE hnum hnum2 ⊢
  have hx1 : (t.toList == []) = false := by rw [beq_eq_false_iff_ne]; exact HNE.out
  have hx2 : t.toList.isEmpty = false := by
    cases h : t.toList with
    | nil => exact absurd h HNE.out
    | cons _ _ => rfl
  go_wp2_with fail
  refine HR.out.mono ?_
  rintro e w3 ⟨hb3, hh⟩
  have hbb := hb.trans (hb3.mono hb.size)
  clear hb hb3
  rcases hh with ⟨m, hm, rfl⟩ | ⟨hno, rfl⟩
  · obtain rfl : n = m := hnum.out m hm
    have hm1 : (m : Int) ≤ 1000000000 := by have := hm.1; omega
    have hm0 : (0 : Int) ≤ (m : Int) := by omega
    clear hm
    go_wp2_with fail
    go_ret
    exact ⟨rfl, hbb⟩
  · have HNO := Lib.hid hno; clear hno
    by_cases h0 : n < 0
    · go_wp2_with fail
      go_ret
      exact ⟨rfl, hbb⟩
    · have h1 : (1000000000 : Int) < n := by
        rcases Int.lt_or_le 1000000000 n with h | h
        · exact h
        · obtain ⟨m, hm⟩ := Int.eq_ofNat_of_zero_le (show 0 ≤ n by omega)
          exact absurd (hnum2.out m (by omega) hm) (HNO.out m)
      go_wp2_with fail
      go_ret
      exact ⟨rfl, hbb⟩
theorem walk_far {a0 : Option Addr} {len cap : Nat} (w : World) (h : 1048576 < len) :
    Calls Tryd.prog 4 #[.slice a0 len cap] w fun e w' => e = .returned (.bool true) ∧ Below w.heap.size w w' := by
  go_enter Tryd.func4, Tryd.ntmps4
  go_wp2_with fail
  refine (big_yes _ h).mono ?_
  rintro e w' ⟨rfl, rfl⟩
  go_wp2_with fail
  go_ret
  exact ⟨rfl, Below.refl _ _⟩
theorem walk (a0 : Option Addr) (len0 cap0 : Nat) (z0 : List Int) (w : World) (w0 : IsRow .u8 w a0 len0 cap0 z0) (hL : laidMetH Tryd.prog Rows.fnNumbersRow.laid w) :
    Calls Tryd.prog 4 #[.slice a0 len0 cap0] w fun e w' => e = .returned (.bool true) ∧ Below w.heap.size w w' := by
  by_cases h2 : len0 ≤ 1048576
  · exact walk_in w (code_of w0 h2) (facts_of hL).1 (facts_of hL).2
  · exact walk_far w (by omega)
theorem door_met (os : Os) (args : Array Value) : laidMetH Tryd.prog Rows.fnNumbersRow.laid ((World.doorLaid Tryd.prog 400 os).forCall (fun _ _ => 0) ⟨#[], args, []⟩).memory :=
  laidMetH_of_parts3 (fuel := 8) (laidMet_of_run' 8 (by kernel_rfl) (by kernel_rfl)) (by kernel_rfl) (by kernel_rfl)
set_option maxRecDepth 100000 in
theorem lifted (os : Os) (started : os.Started) (H : Type) (enc : TypeId × Value → H) :
    ReturnsInHanded {} Tryd.checked os 4 .any (fun w args => (Rows.fnNumbersSpec.pre enc Tryd.prog Tryd.f4 [] false w args ∧ laidMetH Tryd.prog Rows.fnNumbersRow.laid w) ∧ sizedMet enc Tryd.prog Tryd.f4 (OpenSpec.ofChange Rows.fnNumbersSpec) false w args) (Rows.fnNumbersSpec.post enc Tryd.prog Tryd.f4 false true false false) := by
  refine returnsInHanded_of_change_and (C := Tryd.checked) (X := fun w _ => laidMetH Tryd.prog Rows.fnNumbersRow.laid w) (fun _ _ _ hh h => h.of_heap hh) own started (by kernel_rfl) Tryd.func4
    (ChangeSpec.witness_shaped (enc := enc) (C := Tryd.checked) (os := os) (X := fun w _ => laidMetH Tryd.prog Rows.fnNumbersRow.laid w) false (World.doorLaid Tryd.prog 400 os) #[.slice none 0 0] 8 rfl (World.shaped_of_RefB (by kernel_rfl) (by kernel_rfl)) (by kernel_rfl) (by kernel_rfl) (by kernel_rfl) (door_met os _)) ?_
  intro W base args ds gs before hval0 hW _ _ hL _
  have hval : ∀ (j : Nat) t v, Tryd.f4.params[j]? = some t → args[j]? = some v → Value.okWide Tryd.prog W .any base t v := hval0
  have hW' := hW
  obtain ⟨p, q, hA0, hV, rfl, hfz, hnd⟩ := hW
  have hA : DataW.TrodAll enc Tryd.prog W 0 (fun _ => true) true Tryd.f4.params.toList args.toList ds p := hA0
  rw [Tryd.params4] at hA hval
  obtain ⟨v0, vs0, d0, ds0, p0, q0, hargs, rfl, rfl, h0, r0⟩ := trodAll_cons hA
  obtain ⟨rfl, rfl, rfl⟩ := trodAll_nil r0
  obtain rfl : args = #[v0] := by cases args; simp_all
  obtain ⟨rfl, rfl⟩ := trodVars_none hV
  obtain ⟨a0, len0, cap0, rfl⟩ := okWide_slice Tryd.underlying22 (hval 0 22 v0 rfl rfl)
  have k0 := h0
  have lt0 : ∀ x ∈ p0, x.block < W.heap.size := by obtain ⟨m, hm⟩ := k0; exact DataW.trod_lt m _ _ _ hm
  obtain ⟨z0, w0⟩ : ∃ zs, IsRow .u8 W a0 len0 cap0 zs := by
    obtain ⟨fuel, hf⟩ := h0
    rcases open_ints Tryd.underlying22 Tryd.underlying5 (by kernel_rfl) hf with ⟨hcs, _⟩ | ⟨x, l, c, zs, hcs, _, hl, hm, hz, _, hcell, hwz⟩
    · simp [Value.cells] at hcs
      obtain ⟨rfl, rfl, rfl⟩ := hcs
      exact ⟨[], .inl ⟨rfl, rfl, rfl, rfl⟩⟩
    · simp [Value.cells] at hcs
      obtain ⟨rfl, rfl, rfl⟩ := hcs
      exact ⟨zs, .inr ⟨_, rfl, hl, hm, by simpa using hz, hcell, hwz⟩⟩
  clear hA0 hval0
  refine (walk a0 len0 cap0 z0 W w0 hL).mono fun e W' ⟨he, bel⟩ => ?_
  subst he
  exact ⟨_, rfl, _, _, _, [], _, [], hW', trodAll_mk1 (shut_bool Tryd.underlying4 _), (trodAll_cons_mk (Below.trod laidOut (by kernel_rfl) (of_decide_eq_true (by kernel_rfl)) k0 bel lt0) trodAll_mk0), rfl, bel.frame _, fun h => by cases h⟩

theorem over : Rows.fnNumbersRow.holds Tryd.pinned (OpenSpec.ofChange Rows.fnNumbersSpec) :=
  OpenClaim.holds_of_wide 4 Tryd.f4 rfl rfl rfl rfl rfl rfl rfl ⟨rfl, rfl, rfl, rfl, rfl⟩ rfl rfl rfl rfl rfl (by kernel_rfl) Tryd.func4 (by kernel_rfl)
    (of_decide_eq_true (by kernel_rfl)) (by unfold Func.isWrapper; first | (rw [if_pos (by decide +kernel)]; kernel_rfl) | (rw [if_neg (by decide +kernel)]; exact ⟨rfl, rfl⟩))
    (fun os started H enc _ => lifted os started H enc)

theorem proved : Rows.FnNumbersCardSaid :=
  Claim7.holds_tied_plain_at .later [] [.data, .data, .data, .sentinel, .sentinel] true (true, "7e813c2feae9f8bb4f3169450ff18b34c914cabd420c5061f40a20de5125a284") true
    over (fun _ h => by cases h) (by kernel_rfl) (fun _ h => by cases h) fnNumbers_row_tie rfl ⟨rfl, rfl⟩ (by kernel_rfl) rfl
    (fun f fn hf hfn => by
      obtain rfl : f = 4 := Option.some.inj ((show Tryd.prog.funcNamed Rows.fnNumbersRow.func = some 4 by kernel_rfl).symm.trans hf) |>.symm
      obtain rfl : fn = Tryd.f4 := (Option.some.inj (Tryd.func4.symm.trans hfn)).symm
      exact ⟨by kernel_rfl, fun j t ht => by
        rw [Tryd.params4] at ht
        have hm : t ∈ [22] := by simpa using Array.mem_of_getElem? ht
        have hall : ([22].all fun u => !Tryd.prog.wantsStandIn u) = true := by kernel_rfl
        exact (show Tryd.prog.wantsStandIn t = false by simpa using List.all_eq_true.1 hall t hm)⟩)
    (by kernel_rfl)
end Go.Proofs.YtfmafledakchhaaDoor.fnNumbers
