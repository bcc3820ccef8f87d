/- The law FnWays returns true for every code: of a drawn small board, position and goal: a way is found just if the goal is reached, it is a solution as long as the number of jumps between the two, there is a good jump just if the goal is reached and not there yet; the good jumps are those of all jumps after which the goal is reached, in their order; a jump spoils just if it is none of them and the goal was reached; the way begins with the first good jump; a way to a single peg is found just if there is one, and has one jump less than there are pegs. No condition. -/
import Derived.Test.YtlklnabnomfhbaaGreatRows
import Derived.WalkKit
import Derived.WalkSpells
import Derived.ProofKit
import Derived.OpenShut
import Derived.ShutString
import Derived.ChangeOld
import Derived.Below
import Derived.Lib.Hide
import Derived.Lib.SmallJoins
import Derived.ChangeArms
import Derived.Test.YtlklnabnomfhbaaGreatDrawReach
import Derived.Test.YtlklnabnomfhbaaGreatWayA
import Derived.Test.YtlklnabnomfhbaaGreatWayK
import Derived.Test.YtlklnabnomfhbaaGreatGames
import Derived.Deep.DeepCutAuto
namespace Go.Proofs.YtlklnabnomfhbaaGreat.fnWays
open Go.ChangeShapes Go.WideShapes Go.ChangeAt Go.RowKit
open Go.ChangeMaps (open_string shut_string)
set_option linter.unusedVariables false
set_option linter.unusedSimpArgs false
theorem own : ownKnob Tryz.prog.godebug = none := by kernel_rfl
theorem laidOut : laidOutB Tryz.prog = true := by kernel_rfl
/-- What the walk is told of a slice of integers that came in. -/
def IsRow (k : IntKind) (w : World) (a : Option Addr) (len cap : Nat) (zs : List Int) : Prop :=
  (a = none ∧ len = 0 ∧ cap = 0 ∧ zs = []) ∨
  ∃ x, a = some x ∧ len ≤ cap ∧ cap ≤ maxLen ∧ zs.length = cap ∧ (∀ i, i < zs.length → w.cell? (x.add i) = some (.int k (zs.getD i 0))) ∧ ∀ n ∈ zs, (Lit.int k n).wf = true
/-- The board's block, the way, the good jumps, all jumps. -/
structure WSt (w0 : World) (q W H z : Nat) (B1 B2 B3 : Nat) (wa : Option Addr) (nw wk : Nat) (ws : List Ln) (ga : Option Addr) (ng gc : Nat) (gs : List Ln) (ja : Option Addr) (nj jc : Nat) (js : List Ln) (w : World) : Prop where
  board : w.heap[q]? = some (.cells #[.int .i64 W, .int .i64 H, .int .i64 z] 25 (0, 0))
  ws : w.ownsRow B1 39 3 (.slice wa nw wk) nw (lv ws)
  gs : w.ownsRow B2 39 3 (.slice ga ng gc) ng (lv gs)
  js : w.ownsRow B3 39 3 (.slice ja nj jc) nj (lv js)
  below : Below w0.heap.size w0 w
theorem WSt.later {w0 w w' : World} {q W H z B1 B2 B3 nw wk ng gc nj jc : Nat} {wa ga ja : Option Addr} {ws gs js : List Ln} (h : WSt w0 q W H z B1 B2 B3 wa nw wk ws ga ng gc gs ja nj jc js w) (hb : Below w.heap.size w w') : WSt w0 q W H z B1 B2 B3 wa nw wk ws ga ng gc gs ja nj jc js w' :=
  ⟨closed_row _ _ _ _ h.board hb, own_below h.ws hb, own_below h.gs hb, own_below h.js hb, h.below.trans (hb.mono h.below.size)⟩
theorem row_line {w : World} {B n c : Nat} {a : Option Addr} {xs : List Ln} (h : w.ownsRow B 39 3 (.slice a n c) n (lv xs)) (hn : xs.length = n) {i : Nat} {l : Ln} (hi : xs[i]? = some l) : ∃ g, a = some ⟨g, 0, none⟩ := lines_at' h (by have := (List.getElem?_eq_some_iff.1 hi).1; omega)
set_option maxHeartbeats 8000000 in
set_option maxRecDepth 100000 in
theorem walk_in {a0 : Option Addr} {len cap : Nat} (w : World) (hcode : CodeAt w a0 len) :
    Calls Tryz.prog 3 #[.slice a0 len cap] w fun e w' => e = .returned (.bool true) ∧ Below w.heap.size w w' := by
  have HCO := Lib.hid hcode
  clear hcode
  go_enter Tryz.func3, Tryz.ntmps3
  go_wp2_with fail
  refine (big_no _ HCO.out.1).mono ?_
  rintro e w' ⟨rfl, rfl⟩
  go_wp2_with fail
  refine (drawAim w HCO.out).mono ?_
  rintro e w1 ⟨W, H, N, z, p, t, ho, hN, h10, hp, ht, rfl, hb1⟩
  unfold bd
  obtain ⟨a, rfl⟩ := Int.eq_ofNat_of_zero_le (show 0 ≤ W by have := ho.w1; omega)
  obtain ⟨b, rfl⟩ := Int.eq_ofNat_of_zero_le (show 0 ≤ H by have := ho.h1; omega)
  have HSm : Hid (Small5 (a : Int) (b : Int) (z : Int) (p : Int) a b N z p) := ⟨rfl, rfl, rfl, rfl, ho, hN, hp⟩
  have hp63 : (p : Int) ≤ 9223372036854775807 := by have := hp.le; have := ho.zbig; omega
  have ht63 : (t : Int) ≤ 9223372036854775807 := by have := ht.le; have := ho.zbig; omega
  have hq63 : Hid (∀ l ∈ jumpsL (a : Int) b z p, ∃ r : Nat, flipL (p : Int) l = (r : Int) ∧ (r : Int) ≤ 9223372036854775807) := fun l hl => by
    obtain ⟨r, hr, hr'⟩ := HSm.out.jump HSm.out.self (jumpsL_mem.1 hl)
    refine ⟨r, hr, ?_⟩
    have := (HSm.out.sub hr').le
    have := ho.zbig
    omega
  have hpt : posB (a : Int) b z (t : Int) = true := pos_of ho ht
  have FW := HSm.out.ways hpt
  have FO := HSm.out.oneWay
  have HSp : Hid (∀ l ∈ jumpsL (a : Int) b z p, spoilB (a : Int) b z p t l = (reachB false (a : Int) b z p t && !reachB false (a : Int) b z (flipL p l) t)) := fun l hl => HSm.out.spoil hl
  have HJb : Hid (∀ l ∈ jumpsL (a : Int) b z p, jumpB (a : Int) b z p l = true) := fun l hl => jumpsL_mem.1 hl
  have CW := Lib.hid (fun w => implWay (a : Int) b z p t hp63 ht63 w)
  have CN := Lib.hid (fun w => implJBetween (a : Int) b z p t hp63 ht63 w)
  have CG := Lib.hid (fun w => implGoodJ (a : Int) b z p t hp63 ht63 w)
  have CJ := Lib.hid (fun w => specJumps (a : Int) b z p hp63 w)
  have CC := Lib.hid (fun w => specCanRch (a : Int) b z p t hp63 ht63 w)
  have CO := Lib.hid (fun w => implOneWay (a : Int) b z p hp63 w)
  have CF := Lib.hid (fun w => specFinals (a : Int) b z p hp63 w)
  have CPg := Lib.hid (fun w => specPegs (a : Int) b z p hp63 w)
  have CX := Lib.hid (fun (r : Nat) (h : (r : Int) ≤ 9223372036854775807) w => specCanRch (a : Int) b z r t h ht63 w)
  have HSol := Lib.hid (fun (ws : List Ln) (B n gc : Nat) (ga : Option Addr) (hn : ws.length = n) (hx : n ≤ 1048576) (w : World) (ho : w.ownsRow B 39 3 (.slice ga n gc) n (lv ws)) => specSol (a : Int) b z p t hp63 ws hn hx w ho)
  have HSD := Lib.hid (fun f o u w => specDo (a : Int) b z p f o u hp63 w)
  have HIS := Lib.hid (fun f o u w => implSpoil (a : Int) b z p t f o u hp63 ht63 w)
  have hwl := way_le (a : Int) b z p t
  have hjl := jumpsL_le (a : Int) b z p
  have hcn := count_in (a : Int) b z p
  have HG : Hid (goodL (a : Int) b z p t = (jumpsL (a : Int) b z p).filter (fun l => reachB false (a : Int) b z (flipL p l) t)) := rfl
  have hsn := way_snd (a : Int) b z p t
  obtain ⟨⟨ws, okw⟩, hws⟩ : ∃ r, wayB (a : Int) b z p t = r := ⟨_, rfl⟩
  obtain ⟨gs, hgs⟩ : ∃ r, goodL (a : Int) b z p t = r := ⟨_, rfl⟩
  obtain ⟨js, hjs⟩ : ∃ r, jumpsL (a : Int) b z p = r := ⟨_, rfl⟩
  obtain ⟨n, hnn⟩ : ∃ r, betwB (a : Int) b z p t = r := ⟨_, rfl⟩
  obtain ⟨can, hcan⟩ : ∃ r, reachB false (a : Int) b z p t = r := ⟨_, rfl⟩
  obtain ⟨⟨ss, single⟩, hss⟩ : ∃ r, oneWayB (a : Int) b z p = r := ⟨_, rfl⟩
  obtain ⟨fs, hfs⟩ : ∃ r, finL (a : Int) b z p = r := ⟨_, rfl⟩
  obtain ⟨cp, hcp⟩ : ∃ r, countB (a : Int) b z p = r := ⟨_, rfl⟩
  rw [hws, hcan] at hsn
  simp only at hsn
  subst hsn
  rw [hws, hgs, hnn, hcan] at FW
  rw [hss, hfs, hcp] at FO
  rw [hws] at CW hwl
  rw [hgs] at CG
  rw [hjs] at CJ hjl HJb HSp hq63
  rw [hnn] at CN
  rw [hcan] at CC HSp
  rw [hss] at CO
  rw [hfs] at CF
  rw [hcp] at CPg hcn
  rw [hgs, hjs] at HG
  simp only at FW FO hwl
  clear hws hgs hjs hnn hcan hss hfs hcp h10 hN hpt ho hp ht
  replace FW := Lib.hid FW
  replace FO := Lib.hid FO
  obtain ⟨nw, hnw⟩ : ∃ k, ws.length = k := ⟨_, rfl⟩
  obtain ⟨ng, hng⟩ : ∃ k, gs.length = k := ⟨_, rfl⟩
  obtain ⟨nj, hnj⟩ : ∃ k, js.length = k := ⟨_, rfl⟩
  obtain ⟨ns, hns⟩ : ∃ k, ss.length = k := ⟨_, rfl⟩
  obtain ⟨nf, hnf⟩ : ∃ k, fs.length = k := ⟨_, rfl⟩
  rw [hnw] at hwl
  rw [hnj] at hjl
  have NW := Lib.hid hnw
  have NG := Lib.hid hng
  have NJ := Lib.hid hnj
  have NS := Lib.hid hns
  have NF := Lib.hid hnf
  have HP63 := Lib.hid hp63
  have HT63 := Lib.hid ht63
  have HB1 := Lib.hid hb1
  have HCn := Lib.hid hcn
  clear hb1 hnw hng hnj hns hnf hp63 ht63 hcn
  have HQ2 : Hid ((w1.alloc (.cells #[.int .i64 (a : Int), .int .i64 (b : Int), .int .i64 (z : Int)] 25)).heap[w1.heap.size]? = some (.cells #[.int .i64 (a : Int), .int .i64 (b : Int), .int .i64 (z : Int)] 25 (0, 0))) := heap_alloc_new w1 _
  have HB2 : Hid (Below w.heap.size w (w1.alloc (.cells #[.int .i64 (a : Int), .int .i64 (b : Int), .int .i64 (z : Int)] 25))) := HB1.out.alloc HB1.out.size _
  obtain ⟨c0, c1, c2, -, -, -⟩ := row_facts HQ2.out
  go_wp2_with fail
  clear c0 c1 c2
  generalize w1.alloc (.cells #[.int .i64 (a : Int), .int .i64 (b : Int), .int .i64 (z : Int)] 25) = w2 at *
  generalize w1.heap.size = q at *
  refine (CW.out _).mono ?_
  rintro e w3 ⟨v, rfl, hh, hb⟩
  simp only at hh
  rw [NW.out] at hh
  obtain ⟨wa, wk, rfl⟩ := lines_form hh
  have HQ3 := Lib.hid (closed_row _ _ _ _ HQ2.out hb)
  have HB3 := Lib.hid (HB2.out.trans (hb.mono HB2.out.size))
  have R3 := Lib.hid hh
  clear hh hb HQ2 HB2 CW HB1
  generalize w2.heap.size = B1 at *
  obtain ⟨c0, c1, c2, -, -, -⟩ := row_facts HQ3.out
  go_wp2_with fail
  clear c0 c1 c2
  refine (CN.out _).mono ?_
  rintro e w4 ⟨rfl, hb⟩
  have HQ4 := Lib.hid (closed_row _ _ _ _ HQ3.out hb)
  have HB4 := Lib.hid (HB3.out.trans (hb.mono HB3.out.size))
  have R4 := Lib.hid (own_below R3.out hb)
  clear hb HQ3 HB3 R3 CN
  obtain ⟨c0, c1, c2, -, -, -⟩ := row_facts HQ4.out
  go_wp2_with fail
  clear c0 c1 c2
  refine (CG.out _).mono ?_
  rintro e w5 ⟨v, rfl, hh, hb⟩
  rw [NG.out] at hh
  obtain ⟨ga, gc, rfl⟩ := lines_form hh
  have HQ5 := Lib.hid (closed_row _ _ _ _ HQ4.out hb)
  have HB5 := Lib.hid (HB4.out.trans (hb.mono HB4.out.size))
  have R5 := Lib.hid (own_below R4.out hb)
  have S5 := Lib.hid hh
  clear hh hb HQ4 HB4 R4 CG
  generalize w4.heap.size = B2 at *
  obtain ⟨c0, c1, c2, -, -, -⟩ := row_facts HQ5.out
  go_wp2_with fail
  clear c0 c1 c2
  refine (CJ.out _).mono ?_
  rintro e w6 ⟨v, rfl, hh, hb⟩
  rw [NJ.out] at hh
  obtain ⟨ja, jc, rfl⟩ := lines_form hh
  have HS6 : Hid (WSt w q a b z B1 B2 w5.heap.size wa nw wk ws ga ng gc gs ja nj jc js w6) := ⟨closed_row _ _ _ _ HQ5.out hb, own_below R5.out hb, own_below S5.out hb, hh, HB5.out.trans (hb.mono HB5.out.size)⟩
  clear hh hb HQ5 HB5 R5 S5 CJ
  generalize w5.heap.size = B3 at *
  obtain ⟨c0, c1, c2, -, -, -⟩ := row_facts HS6.out.board
  go_wp2_with fail
  clear c0 c1 c2
  refine (CC.out _).mono ?_
  rintro e w7 ⟨rfl, hb⟩
  have HS7 := Lib.hid (HS6.out.later hb)
  clear hb HS6 CC
  go_upto_region 9 with fail
  go_cut [86] (fun cc wx => cc = .bool false ∧ Hid (WSt w q a b z B1 B2 B3 wa nw wk ws ga ng gc gs ja nj jc js wx))
  case first =>
    as_aux_lemma =>
      have hnum := FW.out.num
      have hgood := FW.out.good
      rw [NG.out] at hgood
      cases okw
      · have hng : decide (0 < ng) = false := by
          rw [hgood]; rfl
        clear hgood
        go_wp2_with fail
        go_meet
        exact ⟨rfl, HS7⟩
      · obtain ⟨hsol, hn⟩ := FW.out.sol rfl
        have CS := Lib.hid (HSol.out ws _ _ _ _ NW.out (by omega) w7 HS7.out.ws)
        rw [hsol] at CS
        rw [NW.out] at hn
        subst hn
        simp only [Bool.true_and] at hgood
        obtain ⟨c0, c1, c2, -, -, -⟩ := row_facts HS7.out.board
        by_cases e : p = t
        · have hpe : ((p : Int) == (t : Int)) = true := by simp [e]
          have hng : decide (0 < ng) = false := by
            rw [hgood, hpe]; rfl
          clear hgood hnum hsol
          subst e
          go_wp2_with fail
          clear c0 c1 c2
          refine CS.out.mono ?_
          rintro e w8 ⟨rfl, hb⟩
          have HS8 := Lib.hid (HS7.out.later hb)
          clear hb
          go_wp2_with fail
          go_meet
          exact ⟨rfl, HS8⟩
        · have hpe : ((p : Int) == (t : Int)) = false := by simp; omega
          have hpn : ((p : Int) != (t : Int)) = true := by simp; omega
          have hng : decide (0 < ng) = true := by
            rw [hgood, hpe]; rfl
          clear hgood hnum hsol
          go_wp2_with fail
          clear c0 c1 c2
          refine CS.out.mono ?_
          rintro e w8 ⟨rfl, hb⟩
          have HS8 := Lib.hid (HS7.out.later hb)
          clear hb
          go_wp2_with fail
          go_meet
          exact ⟨rfl, HS8⟩
  case rest =>
    clear HS7 HSol
    obtain ⟨rfl, HS8⟩ := hcut
    go_wp2_with fail
    go_loopw [12, 13] (fun u i wr => ∃ (k d : Nat), k ≤ nj ∧ d ≤ k ∧ i = .int .i64 k ∧ u = .int .i64 d ∧ Hid (((js.take k).filter (fun l => reachB false (a : Int) b z (flipL p l) t)).length = d) ∧ Hid (WSt w q a b z B1 B2 B3 wa nw wk ws ga ng gc gs ja nj jc js wr)) (fun _ i _ => nj - (intOf i).toNat)
    case atStart => exact ⟨0, 0, Nat.zero_le _, Nat.le_refl _, rfl, rfl, rfl, HS8⟩
    case round =>
      clear HS8
      obtain ⟨k, d, hk, hd, rfl, rfl, HD, HS⟩ := hrel
      by_cases hkn : k < nj
      · have k0 : (0 : Int) ≤ (k : Int) := by omega
        have k1 : (k : Int) < (nj : Int) := by omega
        obtain ⟨⟨f, o, u⟩, hl⟩ : ∃ l, js[k]? = some l := ⟨_, List.getElem?_eq_getElem (by rw [NJ.out]; exact hkn)⟩
        have hlm := List.mem_of_getElem? hl
        obtain ⟨r, hr, hr63⟩ := hq63.out _ hlm
        obtain ⟨gj, rfl⟩ := row_line HS.out.js NJ.out hl
        have HCl : Hid (∀ w', WSt w q a b z B1 B2 B3 wa nw wk ws ga ng gc gs (some ⟨gj, 0, none⟩) nj jc js w' → w'.cell? ⟨gj, k * 3, none⟩ = some (.int .i64 f) ∧ w'.cell? ⟨gj, k * 3 + 1, none⟩ = some (.int .i64 o) ∧ w'.cell? ⟨gj, k * 3 + 2, none⟩ = some (.int .i64 u)) := fun w' h => line_cells h.js NJ.out hl
        have CD := Lib.hid (HSD.out f o u)
        rw [do_yes (HJb.out _ hlm), hr] at CD
        have CR := Lib.hid (CX.out r hr63)
        have CS := Lib.hid (HIS.out f o u)
        have hsp := HSp.out _ hlm
        rw [hr] at hsp
        obtain ⟨c, hc⟩ : ∃ c, reachB false (a : Int) b z (r : Int) t = c := ⟨_, rfl⟩
        rw [hc] at CR hsp
        rw [hsp] at CS
        have HNx : Hid ((c = true → ((js.take (k + 1)).filter (fun l => reachB false (a : Int) b z (flipL p l) t)).length = d + 1 ∧ gs[d]? = some (f, o, u)) ∧ (c = false → ((js.take (k + 1)).filter (fun l => reachB false (a : Int) b z (flipL p l) t)).length = d)) := by
          refine ⟨fun h => ?_, fun h => ?_⟩
          · have e := filter_yes (p := fun l => reachB false (a : Int) b z (flipL p l) t) hl (by simp only [hr, hc, h])
            refine ⟨by rw [e, List.length_append, HD.out]; rfl, ?_⟩
            rw [HG.out]
            have hpre : (js.take (k + 1)).filter (fun l => reachB false (a : Int) b z (flipL p l) t) <+: js.filter (fun l => reachB false (a : Int) b z (flipL p l) t) := List.IsPrefix.filter _ (List.take_prefix _ _)
            obtain ⟨rest, hrest⟩ := hpre
            rw [← hrest, e, List.append_assoc, List.getElem?_append_right (by rw [HD.out]; exact Nat.le_refl _), HD.out, Nat.sub_self]
            rfl
          · have e := filter_no (p := fun l => reachB false (a : Int) b z (flipL p l) t) hl (by simp only [hr, hc, h])
            rw [e, HD.out]
        clear hl hlm hr hc hsp hr63 HD
        go_wp2_with fail
        refine wp_region_script (by kernel_rfl) (by kernel_rfl) ?_
        refine Script.load (i := 0) (v := ?_) rfl (by kernel_rfl) (by kernel_rfl) (fun _ _ _ h => h) (by kernel_rfl) ?_ ?_
        rotate_left
        · (intro wS hSw; have hRS := HS.out.later (After.trans (After.drew (After.refl _)) hSw); obtain ⟨c0, c1, c2, -, -, -⟩ := row_facts hRS.board; obtain ⟨x0, x1, x2⟩ := HCl.out _ hRS; go_simp; try with_reducible rfl)
        try simp only [Act.put, List.getElem_toArray, List.getElem_cons_succ, List.getElem_cons_zero, List.setIfInBounds_toArray, List.set_cons_zero, List.set_cons_succ]
        refine Script.load (i := 1) (v := ?_) rfl (by kernel_rfl) (by kernel_rfl) (fun _ _ _ h => h) (by kernel_rfl) ?_ ?_
        rotate_left
        · (intro wS hSw; have hRS := HS.out.later (After.trans (After.drew (After.refl _)) hSw); obtain ⟨c0, c1, c2, -, -, -⟩ := row_facts hRS.board; obtain ⟨x0, x1, x2⟩ := HCl.out _ hRS; go_simp; try with_reducible rfl)
        try simp only [Act.put, List.getElem_toArray, List.getElem_cons_succ, List.getElem_cons_zero, List.setIfInBounds_toArray, List.set_cons_zero, List.set_cons_succ]
        refine Script.load (i := 2) (v := ?_) rfl (by kernel_rfl) (by kernel_rfl) (fun _ _ _ h => h) (by kernel_rfl) ?_ ?_
        rotate_left
        · (intro wS hSw; have hRS := HS.out.later (After.trans (After.drew (After.refl _)) hSw); obtain ⟨c0, c1, c2, -, -, -⟩ := row_facts hRS.board; obtain ⟨x0, x1, x2⟩ := HCl.out _ hRS; go_simp; try with_reducible rfl)
        try simp only [Act.put, List.getElem_toArray, List.getElem_cons_succ, List.getElem_cons_zero, List.setIfInBounds_toArray, List.set_cons_zero, List.set_cons_succ]
        refine Script.load (i := 3) (v := ?_) rfl (by kernel_rfl) (by kernel_rfl) (fun _ _ _ h => h) (by kernel_rfl) ?_ ?_
        rotate_left
        · (intro wS hSw; have hRS := HS.out.later (After.trans (After.drew (After.refl _)) hSw); obtain ⟨c0, c1, c2, -, -, -⟩ := row_facts hRS.board; obtain ⟨x0, x1, x2⟩ := HCl.out _ hRS; go_simp; try with_reducible rfl)
        try simp only [Act.put, List.getElem_toArray, List.getElem_cons_succ, List.getElem_cons_zero, List.setIfInBounds_toArray, List.set_cons_zero, List.set_cons_succ]
        refine Script.load (i := 4) (v := ?_) rfl (by kernel_rfl) (by kernel_rfl) (fun _ _ _ h => h) (by kernel_rfl) ?_ ?_
        rotate_left
        · (intro wS hSw; have hRS := HS.out.later (After.trans (After.drew (After.refl _)) hSw); obtain ⟨c0, c1, c2, -, -, -⟩ := row_facts hRS.board; obtain ⟨x0, x1, x2⟩ := HCl.out _ hRS; go_simp; try with_reducible rfl)
        try simp only [Act.put, List.getElem_toArray, List.getElem_cons_succ, List.getElem_cons_zero, List.setIfInBounds_toArray, List.set_cons_zero, List.set_cons_succ]
        refine Script.load (i := 5) (v := ?_) rfl (by kernel_rfl) (by kernel_rfl) (fun _ _ _ h => h) (by kernel_rfl) ?_ ?_
        rotate_left
        · (intro wS hSw; have hRS := HS.out.later (After.trans (After.drew (After.refl _)) hSw); obtain ⟨c0, c1, c2, -, -, -⟩ := row_facts hRS.board; obtain ⟨x0, x1, x2⟩ := HCl.out _ hRS; go_simp; try with_reducible rfl)
        try simp only [Act.put, List.getElem_toArray, List.getElem_cons_succ, List.getElem_cons_zero, List.setIfInBounds_toArray, List.set_cons_zero, List.set_cons_succ]
        refine Script.call (i := 6) (v := ?_) rfl (by kernel_rfl) (by kernel_rfl) (fun _ _ _ h => h) (by kernel_rfl) ?_ ?_
        rotate_left
        · (intro wS hSw K hK; have hRS := HS.out.later (After.trans (After.drew (After.refl _)) hSw); obtain ⟨c0, c1, c2, -, -, -⟩ := row_facts hRS.board; obtain ⟨x0, x1, x2⟩ := HCl.out _ hRS; go_simp; go_at_call 12; refine (CD.out _).mono ?_; rintro e wk' ⟨rfl, hbc⟩; exact hK.out _ hbc)
        try simp only [Act.put, List.getElem_toArray, List.getElem_cons_succ, List.getElem_cons_zero, List.setIfInBounds_toArray, List.set_cons_zero, List.set_cons_succ]
        refine Script.load (i := 7) (v := ?_) rfl (by kernel_rfl) (by kernel_rfl) (fun _ _ _ h => h) (by kernel_rfl) ?_ ?_
        rotate_left
        · (intro wS hSw; have hRS := HS.out.later (After.trans (After.drew (After.refl _)) hSw); obtain ⟨c0, c1, c2, -, -, -⟩ := row_facts hRS.board; obtain ⟨x0, x1, x2⟩ := HCl.out _ hRS; go_simp; try with_reducible rfl)
        try simp only [Act.put, List.getElem_toArray, List.getElem_cons_succ, List.getElem_cons_zero, List.setIfInBounds_toArray, List.set_cons_zero, List.set_cons_succ]
        refine Script.load (i := 8) (v := ?_) rfl (by kernel_rfl) (by kernel_rfl) (fun _ _ _ h => h) (by kernel_rfl) ?_ ?_
        rotate_left
        · (intro wS hSw; have hRS := HS.out.later (After.trans (After.drew (After.refl _)) hSw); obtain ⟨c0, c1, c2, -, -, -⟩ := row_facts hRS.board; obtain ⟨x0, x1, x2⟩ := HCl.out _ hRS; go_simp; try with_reducible rfl)
        try simp only [Act.put, List.getElem_toArray, List.getElem_cons_succ, List.getElem_cons_zero, List.setIfInBounds_toArray, List.set_cons_zero, List.set_cons_succ]
        refine Script.load (i := 9) (v := ?_) rfl (by kernel_rfl) (by kernel_rfl) (fun _ _ _ h => h) (by kernel_rfl) ?_ ?_
        rotate_left
        · (intro wS hSw; have hRS := HS.out.later (After.trans (After.drew (After.refl _)) hSw); obtain ⟨c0, c1, c2, -, -, -⟩ := row_facts hRS.board; obtain ⟨x0, x1, x2⟩ := HCl.out _ hRS; go_simp; try with_reducible rfl)
        try simp only [Act.put, List.getElem_toArray, List.getElem_cons_succ, List.getElem_cons_zero, List.setIfInBounds_toArray, List.set_cons_zero, List.set_cons_succ]
        refine Script.load (i := 10) (v := ?_) rfl (by kernel_rfl) (by kernel_rfl) (fun _ _ _ h => h) (by kernel_rfl) ?_ ?_
        rotate_left
        · (intro wS hSw; have hRS := HS.out.later (After.trans (After.drew (After.refl _)) hSw); obtain ⟨c0, c1, c2, -, -, -⟩ := row_facts hRS.board; obtain ⟨x0, x1, x2⟩ := HCl.out _ hRS; go_simp; try with_reducible rfl)
        try simp only [Act.put, List.getElem_toArray, List.getElem_cons_succ, List.getElem_cons_zero, List.setIfInBounds_toArray, List.set_cons_zero, List.set_cons_succ]
        refine Script.load (i := 11) (v := ?_) rfl (by kernel_rfl) (by kernel_rfl) (fun _ _ _ h => h) (by kernel_rfl) ?_ ?_
        rotate_left
        · (intro wS hSw; have hRS := HS.out.later (After.trans (After.drew (After.refl _)) hSw); obtain ⟨c0, c1, c2, -, -, -⟩ := row_facts hRS.board; obtain ⟨x0, x1, x2⟩ := HCl.out _ hRS; go_simp; try with_reducible rfl)
        try simp only [Act.put, List.getElem_toArray, List.getElem_cons_succ, List.getElem_cons_zero, List.setIfInBounds_toArray, List.set_cons_zero, List.set_cons_succ]
        refine Script.done (by kernel_rfl) ?_
        intro wD hD hG
        have HS1 := Lib.hid (HS.out.later (After.trans (After.drew (After.refl _)) hD))
        clear hD hG HS
        obtain ⟨c0, c1, c2, -, -, -⟩ := row_facts HS1.out.board
        go_wp2_with fail
        clear c0 c1 c2
        refine (CR.out _).mono ?_
        rintro e w9 ⟨rfl, hb⟩
        have HS2 := Lib.hid (HS1.out.later hb)
        clear hb HS1
        go_upto_if 107 with fail
        go_cut [12] (fun uu wx => ∃ d' : Nat, uu = .int .i64 d' ∧ d' ≤ k + 1 ∧ Hid (((js.take (k + 1)).filter (fun l => reachB false (a : Int) b z (flipL p l) t)).length = d') ∧ Hid (WSt w q a b z B1 B2 B3 wa nw wk ws ga ng gc gs (some ⟨gj, 0, none⟩) nj jc js wx))
        case first =>
          as_aux_lemma =>
            cases c
            · have HN2 := Lib.hid (HNx.out.2 rfl)
              go_wp2_with fail
              go_meet
              exact ⟨d, rfl, by omega, HN2, HS2⟩
            · obtain ⟨hN2, hg0⟩ := HNx.out.1 rfl
              have HN2 := Lib.hid hN2
              obtain ⟨gg, hga⟩ := row_line HS2.out.gs NG.out hg0
              have hdn : d < ng := by rw [← NG.out]; exact (List.getElem?_eq_some_iff.1 hg0).1
              have HCg : Hid (∀ w', WSt w q a b z B1 B2 B3 wa nw wk ws ga ng gc gs (some ⟨gj, 0, none⟩) nj jc js w' → (w'.cell? ⟨gg, d * 3, none⟩ = some (.int .i64 f) ∧ w'.cell? ⟨gg, d * 3 + 1, none⟩ = some (.int .i64 o) ∧ w'.cell? ⟨gg, d * 3 + 2, none⟩ = some (.int .i64 u)) ∧ w'.cell? ⟨gj, k * 3, none⟩ = some (.int .i64 f) ∧ w'.cell? ⟨gj, k * 3 + 1, none⟩ = some (.int .i64 o) ∧ w'.cell? ⟨gj, k * 3 + 2, none⟩ = some (.int .i64 u)) := fun w' h => by
                have h1 := h.gs
                rw [hga] at h1
                exact ⟨line_cells h1 NG.out hg0, HCl.out w' h⟩
              subst hga
              have d0 : (0 : Int) ≤ (d : Int) := by omega
              have d1 : (d : Int) < (ng : Int) := by omega
              have d2 : decide ((ng : Int) ≤ (d : Int)) = false := decide_eq_false (by omega)
              have d3 : decide (ng ≤ d) = false := decide_eq_false (by omega)
              clear hN2 hg0 hdn
              go_wp2_with fail
              refine wp_region_script (by kernel_rfl) (by kernel_rfl) ?_
              refine Script.load (i := 0) (v := ?_) rfl (by kernel_rfl) (by kernel_rfl) (fun _ _ _ h => h) (by kernel_rfl) ?_ ?_
              rotate_left
              · (intro wS hSw; obtain ⟨⟨y0, y1, y2⟩, x0, x1, x2⟩ := HCg.out _ (HS2.out.later (After.trans (After.drew (After.refl _)) hSw)); go_simp; try with_reducible rfl)
              try simp only [Act.put, List.getElem_toArray, List.getElem_cons_succ, List.getElem_cons_zero, List.setIfInBounds_toArray, List.set_cons_zero, List.set_cons_succ]
              refine Script.load (i := 1) (v := ?_) rfl (by kernel_rfl) (by kernel_rfl) (fun _ _ _ h => h) (by kernel_rfl) ?_ ?_
              rotate_left
              · (intro wS hSw; obtain ⟨⟨y0, y1, y2⟩, x0, x1, x2⟩ := HCg.out _ (HS2.out.later (After.trans (After.drew (After.refl _)) hSw)); go_simp; try with_reducible rfl)
              try simp only [Act.put, List.getElem_toArray, List.getElem_cons_succ, List.getElem_cons_zero, List.setIfInBounds_toArray, List.set_cons_zero, List.set_cons_succ]
              refine Script.load (i := 2) (v := ?_) rfl (by kernel_rfl) (by kernel_rfl) (fun _ _ _ h => h) (by kernel_rfl) ?_ ?_
              rotate_left
              · (intro wS hSw; obtain ⟨⟨y0, y1, y2⟩, x0, x1, x2⟩ := HCg.out _ (HS2.out.later (After.trans (After.drew (After.refl _)) hSw)); go_simp; try with_reducible rfl)
              try simp only [Act.put, List.getElem_toArray, List.getElem_cons_succ, List.getElem_cons_zero, List.setIfInBounds_toArray, List.set_cons_zero, List.set_cons_succ]
              refine Script.load (i := 3) (v := ?_) rfl (by kernel_rfl) (by kernel_rfl) (fun _ _ _ h => h) (by kernel_rfl) ?_ ?_
              rotate_left
              · (intro wS hSw; obtain ⟨⟨y0, y1, y2⟩, x0, x1, x2⟩ := HCg.out _ (HS2.out.later (After.trans (After.drew (After.refl _)) hSw)); go_simp; try with_reducible rfl)
              try simp only [Act.put, List.getElem_toArray, List.getElem_cons_succ, List.getElem_cons_zero, List.setIfInBounds_toArray, List.set_cons_zero, List.set_cons_succ]
              refine Script.load (i := 4) (v := ?_) rfl (by kernel_rfl) (by kernel_rfl) (fun _ _ _ h => h) (by kernel_rfl) ?_ ?_
              rotate_left
              · (intro wS hSw; obtain ⟨⟨y0, y1, y2⟩, x0, x1, x2⟩ := HCg.out _ (HS2.out.later (After.trans (After.drew (After.refl _)) hSw)); go_simp; try with_reducible rfl)
              try simp only [Act.put, List.getElem_toArray, List.getElem_cons_succ, List.getElem_cons_zero, List.setIfInBounds_toArray, List.set_cons_zero, List.set_cons_succ]
              refine Script.load (i := 5) (v := ?_) rfl (by kernel_rfl) (by kernel_rfl) (fun _ _ _ h => h) (by kernel_rfl) ?_ ?_
              rotate_left
              · (intro wS hSw; obtain ⟨⟨y0, y1, y2⟩, x0, x1, x2⟩ := HCg.out _ (HS2.out.later (After.trans (After.drew (After.refl _)) hSw)); go_simp; try with_reducible rfl)
              try simp only [Act.put, List.getElem_toArray, List.getElem_cons_succ, List.getElem_cons_zero, List.setIfInBounds_toArray, List.set_cons_zero, List.set_cons_succ]
              refine Script.load (i := 6) (v := ?_) rfl (by kernel_rfl) (by kernel_rfl) (fun _ _ _ h => h) (by kernel_rfl) ?_ ?_
              rotate_left
              · (intro wS hSw; obtain ⟨⟨y0, y1, y2⟩, x0, x1, x2⟩ := HCg.out _ (HS2.out.later (After.trans (After.drew (After.refl _)) hSw)); go_simp; try with_reducible rfl)
              try simp only [Act.put, List.getElem_toArray, List.getElem_cons_succ, List.getElem_cons_zero, List.setIfInBounds_toArray, List.set_cons_zero, List.set_cons_succ]
              refine Script.load (i := 7) (v := ?_) rfl (by kernel_rfl) (by kernel_rfl) (fun _ _ _ h => h) (by kernel_rfl) ?_ ?_
              rotate_left
              · (intro wS hSw; obtain ⟨⟨y0, y1, y2⟩, x0, x1, x2⟩ := HCg.out _ (HS2.out.later (After.trans (After.drew (After.refl _)) hSw)); go_simp; try with_reducible rfl)
              try simp only [Act.put, List.getElem_toArray, List.getElem_cons_succ, List.getElem_cons_zero, List.setIfInBounds_toArray, List.set_cons_zero, List.set_cons_succ]
              refine Script.load (i := 8) (v := ?_) rfl (by kernel_rfl) (by kernel_rfl) (fun _ _ _ h => h) (by kernel_rfl) ?_ ?_
              rotate_left
              · (intro wS hSw; obtain ⟨⟨y0, y1, y2⟩, x0, x1, x2⟩ := HCg.out _ (HS2.out.later (After.trans (After.drew (After.refl _)) hSw)); go_simp; try with_reducible rfl)
              try simp only [Act.put, List.getElem_toArray, List.getElem_cons_succ, List.getElem_cons_zero, List.setIfInBounds_toArray, List.set_cons_zero, List.set_cons_succ]
              refine Script.load (i := 9) (v := ?_) rfl (by kernel_rfl) (by kernel_rfl) (fun _ _ _ h => h) (by kernel_rfl) ?_ ?_
              rotate_left
              · (intro wS hSw; obtain ⟨⟨y0, y1, y2⟩, x0, x1, x2⟩ := HCg.out _ (HS2.out.later (After.trans (After.drew (After.refl _)) hSw)); go_simp; try with_reducible rfl)
              try simp only [Act.put, List.getElem_toArray, List.getElem_cons_succ, List.getElem_cons_zero, List.setIfInBounds_toArray, List.set_cons_zero, List.set_cons_succ]
              refine Script.load (i := 10) (v := ?_) rfl (by kernel_rfl) (by kernel_rfl) (fun _ _ _ h => h) (by kernel_rfl) ?_ ?_
              rotate_left
              · (intro wS hSw; obtain ⟨⟨y0, y1, y2⟩, x0, x1, x2⟩ := HCg.out _ (HS2.out.later (After.trans (After.drew (After.refl _)) hSw)); go_simp; try with_reducible rfl)
              try simp only [Act.put, List.getElem_toArray, List.getElem_cons_succ, List.getElem_cons_zero, List.setIfInBounds_toArray, List.set_cons_zero, List.set_cons_succ]
              refine Script.load (i := 11) (v := ?_) rfl (by kernel_rfl) (by kernel_rfl) (fun _ _ _ h => h) (by kernel_rfl) ?_ ?_
              rotate_left
              · (intro wS hSw; obtain ⟨⟨y0, y1, y2⟩, x0, x1, x2⟩ := HCg.out _ (HS2.out.later (After.trans (After.drew (After.refl _)) hSw)); go_simp; try with_reducible rfl)
              try simp only [Act.put, List.getElem_toArray, List.getElem_cons_succ, List.getElem_cons_zero, List.setIfInBounds_toArray, List.set_cons_zero, List.set_cons_succ]
              refine Script.load (i := 12) (v := ?_) rfl (by kernel_rfl) (by kernel_rfl) (fun _ _ _ h => h) (by kernel_rfl) ?_ ?_
              rotate_left
              · (intro wS hSw; obtain ⟨⟨y0, y1, y2⟩, x0, x1, x2⟩ := HCg.out _ (HS2.out.later (After.trans (After.drew (After.refl _)) hSw)); go_simp; try with_reducible rfl)
              try simp only [Act.put, List.getElem_toArray, List.getElem_cons_succ, List.getElem_cons_zero, List.setIfInBounds_toArray, List.set_cons_zero, List.set_cons_succ]
              refine Script.load (i := 13) (v := ?_) rfl (by kernel_rfl) (by kernel_rfl) (fun _ _ _ h => h) (by kernel_rfl) ?_ ?_
              rotate_left
              · (intro wS hSw; obtain ⟨⟨y0, y1, y2⟩, x0, x1, x2⟩ := HCg.out _ (HS2.out.later (After.trans (After.drew (After.refl _)) hSw)); go_simp; try with_reducible rfl)
              try simp only [Act.put, List.getElem_toArray, List.getElem_cons_succ, List.getElem_cons_zero, List.setIfInBounds_toArray, List.set_cons_zero, List.set_cons_succ]
              refine Script.load (i := 14) (v := ?_) rfl (by kernel_rfl) (by kernel_rfl) (fun _ _ _ h => h) (by kernel_rfl) ?_ ?_
              rotate_left
              · (intro wS hSw; obtain ⟨⟨y0, y1, y2⟩, x0, x1, x2⟩ := HCg.out _ (HS2.out.later (After.trans (After.drew (After.refl _)) hSw)); go_simp; try with_reducible rfl)
              try simp only [Act.put, List.getElem_toArray, List.getElem_cons_succ, List.getElem_cons_zero, List.setIfInBounds_toArray, List.set_cons_zero, List.set_cons_succ]
              refine Script.done (by kernel_rfl) ?_
              intro wD hD hG
              have HS3 := Lib.hid (HS2.out.later (After.trans (After.drew (After.refl _)) hD))
              clear hD hG
              go_wp2_with fail
              go_meet
              exact ⟨d + 1, by go_num, by omega, HN2, HS3⟩
        case rest =>
          as_aux_lemma =>
            clear HS2 HNx
            obtain ⟨d', rfl, hd', HN2, HS2⟩ := hcut
            cases okw
            · simp only [Bool.false_and] at CS
              go_wp2_with fail
              refine wp_region_script (by kernel_rfl) (by kernel_rfl) ?_
              refine Script.load (i := 0) (v := ?_) rfl (by kernel_rfl) (by kernel_rfl) (fun _ _ _ h => h) (by kernel_rfl) ?_ ?_
              rotate_left
              · (intro wS hSw; have hRS := HS2.out.later (After.trans (After.drew (After.refl _)) hSw); obtain ⟨c0, c1, c2, -, -, -⟩ := row_facts hRS.board; obtain ⟨x0, x1, x2⟩ := HCl.out _ hRS; go_simp; try with_reducible rfl)
              try simp only [Act.put, List.getElem_toArray, List.getElem_cons_succ, List.getElem_cons_zero, List.setIfInBounds_toArray, List.set_cons_zero, List.set_cons_succ]
              refine Script.load (i := 1) (v := ?_) rfl (by kernel_rfl) (by kernel_rfl) (fun _ _ _ h => h) (by kernel_rfl) ?_ ?_
              rotate_left
              · (intro wS hSw; have hRS := HS2.out.later (After.trans (After.drew (After.refl _)) hSw); obtain ⟨c0, c1, c2, -, -, -⟩ := row_facts hRS.board; obtain ⟨x0, x1, x2⟩ := HCl.out _ hRS; go_simp; try with_reducible rfl)
              try simp only [Act.put, List.getElem_toArray, List.getElem_cons_succ, List.getElem_cons_zero, List.setIfInBounds_toArray, List.set_cons_zero, List.set_cons_succ]
              refine Script.load (i := 2) (v := ?_) rfl (by kernel_rfl) (by kernel_rfl) (fun _ _ _ h => h) (by kernel_rfl) ?_ ?_
              rotate_left
              · (intro wS hSw; have hRS := HS2.out.later (After.trans (After.drew (After.refl _)) hSw); obtain ⟨c0, c1, c2, -, -, -⟩ := row_facts hRS.board; obtain ⟨x0, x1, x2⟩ := HCl.out _ hRS; go_simp; try with_reducible rfl)
              try simp only [Act.put, List.getElem_toArray, List.getElem_cons_succ, List.getElem_cons_zero, List.setIfInBounds_toArray, List.set_cons_zero, List.set_cons_succ]
              refine Script.load (i := 3) (v := ?_) rfl (by kernel_rfl) (by kernel_rfl) (fun _ _ _ h => h) (by kernel_rfl) ?_ ?_
              rotate_left
              · (intro wS hSw; have hRS := HS2.out.later (After.trans (After.drew (After.refl _)) hSw); obtain ⟨c0, c1, c2, -, -, -⟩ := row_facts hRS.board; obtain ⟨x0, x1, x2⟩ := HCl.out _ hRS; go_simp; try with_reducible rfl)
              try simp only [Act.put, List.getElem_toArray, List.getElem_cons_succ, List.getElem_cons_zero, List.setIfInBounds_toArray, List.set_cons_zero, List.set_cons_succ]
              refine Script.load (i := 4) (v := ?_) rfl (by kernel_rfl) (by kernel_rfl) (fun _ _ _ h => h) (by kernel_rfl) ?_ ?_
              rotate_left
              · (intro wS hSw; have hRS := HS2.out.later (After.trans (After.drew (After.refl _)) hSw); obtain ⟨c0, c1, c2, -, -, -⟩ := row_facts hRS.board; obtain ⟨x0, x1, x2⟩ := HCl.out _ hRS; go_simp; try with_reducible rfl)
              try simp only [Act.put, List.getElem_toArray, List.getElem_cons_succ, List.getElem_cons_zero, List.setIfInBounds_toArray, List.set_cons_zero, List.set_cons_succ]
              refine Script.load (i := 5) (v := ?_) rfl (by kernel_rfl) (by kernel_rfl) (fun _ _ _ h => h) (by kernel_rfl) ?_ ?_
              rotate_left
              · (intro wS hSw; have hRS := HS2.out.later (After.trans (After.drew (After.refl _)) hSw); obtain ⟨c0, c1, c2, -, -, -⟩ := row_facts hRS.board; obtain ⟨x0, x1, x2⟩ := HCl.out _ hRS; go_simp; try with_reducible rfl)
              try simp only [Act.put, List.getElem_toArray, List.getElem_cons_succ, List.getElem_cons_zero, List.setIfInBounds_toArray, List.set_cons_zero, List.set_cons_succ]
              refine Script.load (i := 6) (v := ?_) rfl (by kernel_rfl) (by kernel_rfl) (fun _ _ _ h => h) (by kernel_rfl) ?_ ?_
              rotate_left
              · (intro wS hSw; have hRS := HS2.out.later (After.trans (After.drew (After.refl _)) hSw); obtain ⟨c0, c1, c2, -, -, -⟩ := row_facts hRS.board; obtain ⟨x0, x1, x2⟩ := HCl.out _ hRS; go_simp; try with_reducible rfl)
              try simp only [Act.put, List.getElem_toArray, List.getElem_cons_succ, List.getElem_cons_zero, List.setIfInBounds_toArray, List.set_cons_zero, List.set_cons_succ]
              refine Script.call (i := 7) (v := ?_) rfl (by kernel_rfl) (by kernel_rfl) (fun _ _ _ h => h) (by kernel_rfl) ?_ ?_
              rotate_left
              · (intro wS hSw K hK; have hRS := HS2.out.later (After.trans (After.drew (After.refl _)) hSw); obtain ⟨c0, c1, c2, -, -, -⟩ := row_facts hRS.board; obtain ⟨x0, x1, x2⟩ := HCl.out _ hRS; go_simp; go_at_call 13; refine (CS.out _).mono ?_; rintro e wc' ⟨rfl, hbc⟩; exact hK.out _ hbc)
              try simp only [Act.put, List.getElem_toArray, List.getElem_cons_succ, List.getElem_cons_zero, List.setIfInBounds_toArray, List.set_cons_zero, List.set_cons_succ]
              refine Script.load (i := 8) (v := ?_) rfl (by kernel_rfl) (by kernel_rfl) (fun _ _ _ h => h) (by kernel_rfl) ?_ ?_
              rotate_left
              · (intro wS hSw; have hRS := HS2.out.later (After.trans (After.drew (After.refl _)) hSw); obtain ⟨c0, c1, c2, -, -, -⟩ := row_facts hRS.board; obtain ⟨x0, x1, x2⟩ := HCl.out _ hRS; go_simp; try with_reducible rfl)
              try simp only [Act.put, List.getElem_toArray, List.getElem_cons_succ, List.getElem_cons_zero, List.setIfInBounds_toArray, List.set_cons_zero, List.set_cons_succ]
              refine Script.load (i := 9) (v := ?_) rfl (by kernel_rfl) (by kernel_rfl) (fun _ _ _ h => h) (by kernel_rfl) ?_ ?_
              rotate_left
              · (intro wS hSw; have hRS := HS2.out.later (After.trans (After.drew (After.refl _)) hSw); obtain ⟨c0, c1, c2, -, -, -⟩ := row_facts hRS.board; obtain ⟨x0, x1, x2⟩ := HCl.out _ hRS; go_simp; try with_reducible rfl)
              try simp only [Act.put, List.getElem_toArray, List.getElem_cons_succ, List.getElem_cons_zero, List.setIfInBounds_toArray, List.set_cons_zero, List.set_cons_succ]
              refine Script.skip (i := 10) rfl (by kernel_rfl) (by kernel_rfl) (fun _ _ _ h => h) (by kernel_rfl) ?_
              try simp only [Act.put, List.getElem_toArray, List.getElem_cons_succ, List.getElem_cons_zero, List.setIfInBounds_toArray, List.set_cons_zero, List.set_cons_succ]
              refine Script.skip (i := 11) rfl (by kernel_rfl) (by kernel_rfl) (fun _ _ _ h => h) (by kernel_rfl) ?_
              try simp only [Act.put, List.getElem_toArray, List.getElem_cons_succ, List.getElem_cons_zero, List.setIfInBounds_toArray, List.set_cons_zero, List.set_cons_succ]
              refine Script.load (i := 12) (v := ?_) rfl (by kernel_rfl) (by kernel_rfl) (fun _ _ _ h => h) (by kernel_rfl) ?_ ?_
              rotate_left
              · (intro wS hSw; have hRS := HS2.out.later (After.trans (After.drew (After.refl _)) hSw); obtain ⟨c0, c1, c2, -, -, -⟩ := row_facts hRS.board; obtain ⟨x0, x1, x2⟩ := HCl.out _ hRS; go_simp; try with_reducible rfl)
              try simp only [Act.put, List.getElem_toArray, List.getElem_cons_succ, List.getElem_cons_zero, List.setIfInBounds_toArray, List.set_cons_zero, List.set_cons_succ]
              refine Script.load (i := 13) (v := ?_) rfl (by kernel_rfl) (by kernel_rfl) (fun _ _ _ h => h) (by kernel_rfl) ?_ ?_
              rotate_left
              · (intro wS hSw; have hRS := HS2.out.later (After.trans (After.drew (After.refl _)) hSw); obtain ⟨c0, c1, c2, -, -, -⟩ := row_facts hRS.board; obtain ⟨x0, x1, x2⟩ := HCl.out _ hRS; go_simp; try with_reducible rfl)
              try simp only [Act.put, List.getElem_toArray, List.getElem_cons_succ, List.getElem_cons_zero, List.setIfInBounds_toArray, List.set_cons_zero, List.set_cons_succ]
              refine Script.done (by kernel_rfl) ?_
              intro wD hD hG
              have HS3 := Lib.hid (HS2.out.later (After.trans (After.drew (After.refl _)) hD))
              clear hD hG HS2
              go_wp2_with fail
              go_roundw
              case rel => exact ⟨k + 1, d', by omega, hd', by go_num, rfl, HN2, HS3⟩
              case measure => simp [intOf]; omega
            · simp only [Bool.true_and] at CS
              cases c
              all_goals
                simp only [Bool.not_true, Bool.not_false] at CS
                go_wp2_with fail
                refine wp_region_script (by kernel_rfl) (by kernel_rfl) ?_
                refine Script.load (i := 0) (v := ?_) rfl (by kernel_rfl) (by kernel_rfl) (fun _ _ _ h => h) (by kernel_rfl) ?_ ?_
                rotate_left
                · (intro wS hSw; have hRS := HS2.out.later (After.trans (After.drew (After.refl _)) hSw); obtain ⟨c0, c1, c2, -, -, -⟩ := row_facts hRS.board; obtain ⟨x0, x1, x2⟩ := HCl.out _ hRS; go_simp; try with_reducible rfl)
                try simp only [Act.put, List.getElem_toArray, List.getElem_cons_succ, List.getElem_cons_zero, List.setIfInBounds_toArray, List.set_cons_zero, List.set_cons_succ]
                refine Script.load (i := 1) (v := ?_) rfl (by kernel_rfl) (by kernel_rfl) (fun _ _ _ h => h) (by kernel_rfl) ?_ ?_
                rotate_left
                · (intro wS hSw; have hRS := HS2.out.later (After.trans (After.drew (After.refl _)) hSw); obtain ⟨c0, c1, c2, -, -, -⟩ := row_facts hRS.board; obtain ⟨x0, x1, x2⟩ := HCl.out _ hRS; go_simp; try with_reducible rfl)
                try simp only [Act.put, List.getElem_toArray, List.getElem_cons_succ, List.getElem_cons_zero, List.setIfInBounds_toArray, List.set_cons_zero, List.set_cons_succ]
                refine Script.load (i := 2) (v := ?_) rfl (by kernel_rfl) (by kernel_rfl) (fun _ _ _ h => h) (by kernel_rfl) ?_ ?_
                rotate_left
                · (intro wS hSw; have hRS := HS2.out.later (After.trans (After.drew (After.refl _)) hSw); obtain ⟨c0, c1, c2, -, -, -⟩ := row_facts hRS.board; obtain ⟨x0, x1, x2⟩ := HCl.out _ hRS; go_simp; try with_reducible rfl)
                try simp only [Act.put, List.getElem_toArray, List.getElem_cons_succ, List.getElem_cons_zero, List.setIfInBounds_toArray, List.set_cons_zero, List.set_cons_succ]
                refine Script.load (i := 3) (v := ?_) rfl (by kernel_rfl) (by kernel_rfl) (fun _ _ _ h => h) (by kernel_rfl) ?_ ?_
                rotate_left
                · (intro wS hSw; have hRS := HS2.out.later (After.trans (After.drew (After.refl _)) hSw); obtain ⟨c0, c1, c2, -, -, -⟩ := row_facts hRS.board; obtain ⟨x0, x1, x2⟩ := HCl.out _ hRS; go_simp; try with_reducible rfl)
                try simp only [Act.put, List.getElem_toArray, List.getElem_cons_succ, List.getElem_cons_zero, List.setIfInBounds_toArray, List.set_cons_zero, List.set_cons_succ]
                refine Script.load (i := 4) (v := ?_) rfl (by kernel_rfl) (by kernel_rfl) (fun _ _ _ h => h) (by kernel_rfl) ?_ ?_
                rotate_left
                · (intro wS hSw; have hRS := HS2.out.later (After.trans (After.drew (After.refl _)) hSw); obtain ⟨c0, c1, c2, -, -, -⟩ := row_facts hRS.board; obtain ⟨x0, x1, x2⟩ := HCl.out _ hRS; go_simp; try with_reducible rfl)
                try simp only [Act.put, List.getElem_toArray, List.getElem_cons_succ, List.getElem_cons_zero, List.setIfInBounds_toArray, List.set_cons_zero, List.set_cons_succ]
                refine Script.load (i := 5) (v := ?_) rfl (by kernel_rfl) (by kernel_rfl) (fun _ _ _ h => h) (by kernel_rfl) ?_ ?_
                rotate_left
                · (intro wS hSw; have hRS := HS2.out.later (After.trans (After.drew (After.refl _)) hSw); obtain ⟨c0, c1, c2, -, -, -⟩ := row_facts hRS.board; obtain ⟨x0, x1, x2⟩ := HCl.out _ hRS; go_simp; try with_reducible rfl)
                try simp only [Act.put, List.getElem_toArray, List.getElem_cons_succ, List.getElem_cons_zero, List.setIfInBounds_toArray, List.set_cons_zero, List.set_cons_succ]
                refine Script.load (i := 6) (v := ?_) rfl (by kernel_rfl) (by kernel_rfl) (fun _ _ _ h => h) (by kernel_rfl) ?_ ?_
                rotate_left
                · (intro wS hSw; have hRS := HS2.out.later (After.trans (After.drew (After.refl _)) hSw); obtain ⟨c0, c1, c2, -, -, -⟩ := row_facts hRS.board; obtain ⟨x0, x1, x2⟩ := HCl.out _ hRS; go_simp; try with_reducible rfl)
                try simp only [Act.put, List.getElem_toArray, List.getElem_cons_succ, List.getElem_cons_zero, List.setIfInBounds_toArray, List.set_cons_zero, List.set_cons_succ]
                refine Script.call (i := 7) (v := ?_) rfl (by kernel_rfl) (by kernel_rfl) (fun _ _ _ h => h) (by kernel_rfl) ?_ ?_
                rotate_left
                · (intro wS hSw K hK; have hRS := HS2.out.later (After.trans (After.drew (After.refl _)) hSw); obtain ⟨c0, c1, c2, -, -, -⟩ := row_facts hRS.board; obtain ⟨x0, x1, x2⟩ := HCl.out _ hRS; go_simp; go_at_call 13; refine (CS.out _).mono ?_; rintro e wc' ⟨rfl, hbc⟩; exact hK.out _ hbc)
                try simp only [Act.put, List.getElem_toArray, List.getElem_cons_succ, List.getElem_cons_zero, List.setIfInBounds_toArray, List.set_cons_zero, List.set_cons_succ]
                refine Script.load (i := 8) (v := ?_) rfl (by kernel_rfl) (by kernel_rfl) (fun _ _ _ h => h) (by kernel_rfl) ?_ ?_
                rotate_left
                · (intro wS hSw; have hRS := HS2.out.later (After.trans (After.drew (After.refl _)) hSw); obtain ⟨c0, c1, c2, -, -, -⟩ := row_facts hRS.board; obtain ⟨x0, x1, x2⟩ := HCl.out _ hRS; go_simp; try with_reducible rfl)
                try simp only [Act.put, List.getElem_toArray, List.getElem_cons_succ, List.getElem_cons_zero, List.setIfInBounds_toArray, List.set_cons_zero, List.set_cons_succ]
                refine Script.load (i := 9) (v := ?_) rfl (by kernel_rfl) (by kernel_rfl) (fun _ _ _ h => h) (by kernel_rfl) ?_ ?_
                rotate_left
                · (intro wS hSw; have hRS := HS2.out.later (After.trans (After.drew (After.refl _)) hSw); obtain ⟨c0, c1, c2, -, -, -⟩ := row_facts hRS.board; obtain ⟨x0, x1, x2⟩ := HCl.out _ hRS; go_simp; try with_reducible rfl)
                try simp only [Act.put, List.getElem_toArray, List.getElem_cons_succ, List.getElem_cons_zero, List.setIfInBounds_toArray, List.set_cons_zero, List.set_cons_succ]
                refine Script.load (i := 10) (v := ?_) rfl (by kernel_rfl) (by kernel_rfl) (fun _ _ _ h => h) (by kernel_rfl) ?_ ?_
                rotate_left
                · (intro wS hSw; have hRS := HS2.out.later (After.trans (After.drew (After.refl _)) hSw); obtain ⟨c0, c1, c2, -, -, -⟩ := row_facts hRS.board; obtain ⟨x0, x1, x2⟩ := HCl.out _ hRS; go_simp; try with_reducible rfl)
                try simp only [Act.put, List.getElem_toArray, List.getElem_cons_succ, List.getElem_cons_zero, List.setIfInBounds_toArray, List.set_cons_zero, List.set_cons_succ]
                refine Script.load (i := 11) (v := ?_) rfl (by kernel_rfl) (by kernel_rfl) (fun _ _ _ h => h) (by kernel_rfl) ?_ ?_
                rotate_left
                · (intro wS hSw; have hRS := HS2.out.later (After.trans (After.drew (After.refl _)) hSw); obtain ⟨c0, c1, c2, -, -, -⟩ := row_facts hRS.board; obtain ⟨x0, x1, x2⟩ := HCl.out _ hRS; go_simp; try with_reducible rfl)
                try simp only [Act.put, List.getElem_toArray, List.getElem_cons_succ, List.getElem_cons_zero, List.setIfInBounds_toArray, List.set_cons_zero, List.set_cons_succ]
                refine Script.load (i := 12) (v := ?_) rfl (by kernel_rfl) (by kernel_rfl) (fun _ _ _ h => h) (by kernel_rfl) ?_ ?_
                rotate_left
                · (intro wS hSw; have hRS := HS2.out.later (After.trans (After.drew (After.refl _)) hSw); obtain ⟨c0, c1, c2, -, -, -⟩ := row_facts hRS.board; obtain ⟨x0, x1, x2⟩ := HCl.out _ hRS; go_simp; try with_reducible rfl)
                try simp only [Act.put, List.getElem_toArray, List.getElem_cons_succ, List.getElem_cons_zero, List.setIfInBounds_toArray, List.set_cons_zero, List.set_cons_succ]
                refine Script.load (i := 13) (v := ?_) rfl (by kernel_rfl) (by kernel_rfl) (fun _ _ _ h => h) (by kernel_rfl) ?_ ?_
                rotate_left
                · (intro wS hSw; have hRS := HS2.out.later (After.trans (After.drew (After.refl _)) hSw); obtain ⟨c0, c1, c2, -, -, -⟩ := row_facts hRS.board; obtain ⟨x0, x1, x2⟩ := HCl.out _ hRS; go_simp; try with_reducible rfl)
                try simp only [Act.put, List.getElem_toArray, List.getElem_cons_succ, List.getElem_cons_zero, List.setIfInBounds_toArray, List.set_cons_zero, List.set_cons_succ]
                refine Script.done (by kernel_rfl) ?_
                intro wD hD hG
                have HS3 := Lib.hid (HS2.out.later (After.trans (After.drew (After.refl _)) hD))
                clear hD hG HS2
                go_wp2_with fail
                go_roundw
                case rel => exact ⟨k + 1, d', by omega, hd', by go_num, rfl, HN2, HS3⟩
                case measure => simp [intOf]; omega
      · obtain rfl : k = nj := by omega
        have hdn : d = ng := by
          have h1 := HD.out
          rw [List.take_of_length_le (by rw [NJ.out]; exact Nat.le_refl _), ← HG.out, NG.out] at h1
          exact h1.symm
        subst hdn
        have FH := Lib.hid FW.out.head
        obtain ⟨c0, c1, c2, -, -, -⟩ := row_facts HS.out.board
        go_wp2_with fail
        clear c0 c1 c2
        refine (CO.out _).mono ?_
        rintro e w8 ⟨v, rfl, hh, hb⟩
        simp only at hh
        rw [NS.out] at hh
        obtain ⟨sa, sc, rfl⟩ := lines_form hh
        have HS1 := Lib.hid (HS.out.later hb)
        clear hb HS hh CO
        simp only
        have hfo := FO.out.1
        have hss := FO.out.2
        rw [NF.out] at hfo
        rw [NS.out] at hss
        replace hfo := hfo.symm
        clear FO FW
        rcases FH.out with h0 | ⟨⟨f, o, u⟩, ws', gs', h1, h2⟩
        · have hw0 : ((nw : Int) == 0) = true := by
            have := NW.out
            rw [h0] at this
            simp only [List.length_nil] at this
            simp; omega
          clear h0 FH
          cases single
          · as_aux_lemma =>
              have hnf : decide (0 < nf) = false := hfo
              clear hfo hss
              go_wp2_with fail
              refine wp_region_script (by kernel_rfl) (by kernel_rfl) ?_
              refine Script.load (i := 0) (v := ?_) rfl (by kernel_rfl) (by kernel_rfl) (fun _ _ _ h => h) (by kernel_rfl) ?_ ?_
              rotate_left
              · (intro wS hSw; have hRS := HS1.out.later (After.trans (After.drew (After.refl _)) hSw); obtain ⟨c0, c1, c2, -, -, -⟩ := row_facts hRS.board; go_simp; try with_reducible rfl)
              try simp only [Act.put, List.getElem_toArray, List.getElem_cons_succ, List.getElem_cons_zero, List.setIfInBounds_toArray, List.set_cons_zero, List.set_cons_succ]
              refine Script.load (i := 1) (v := ?_) rfl (by kernel_rfl) (by kernel_rfl) (fun _ _ _ h => h) (by kernel_rfl) ?_ ?_
              rotate_left
              · (intro wS hSw; have hRS := HS1.out.later (After.trans (After.drew (After.refl _)) hSw); obtain ⟨c0, c1, c2, -, -, -⟩ := row_facts hRS.board; go_simp; try with_reducible rfl)
              try simp only [Act.put, List.getElem_toArray, List.getElem_cons_succ, List.getElem_cons_zero, List.setIfInBounds_toArray, List.set_cons_zero, List.set_cons_succ]
              refine Script.load (i := 2) (v := ?_) rfl (by kernel_rfl) (by kernel_rfl) (fun _ _ _ h => h) (by kernel_rfl) ?_ ?_
              rotate_left
              · (intro wS hSw; have hRS := HS1.out.later (After.trans (After.drew (After.refl _)) hSw); obtain ⟨c0, c1, c2, -, -, -⟩ := row_facts hRS.board; go_simp; try with_reducible rfl)
              try simp only [Act.put, List.getElem_toArray, List.getElem_cons_succ, List.getElem_cons_zero, List.setIfInBounds_toArray, List.set_cons_zero, List.set_cons_succ]
              refine Script.load (i := 3) (v := ?_) rfl (by kernel_rfl) (by kernel_rfl) (fun _ _ _ h => h) (by kernel_rfl) ?_ ?_
              rotate_left
              · (intro wS hSw; have hRS := HS1.out.later (After.trans (After.drew (After.refl _)) hSw); obtain ⟨c0, c1, c2, -, -, -⟩ := row_facts hRS.board; go_simp; try with_reducible rfl)
              try simp only [Act.put, List.getElem_toArray, List.getElem_cons_succ, List.getElem_cons_zero, List.setIfInBounds_toArray, List.set_cons_zero, List.set_cons_succ]
              refine Script.load (i := 4) (v := ?_) rfl (by kernel_rfl) (by kernel_rfl) (fun _ _ _ h => h) (by kernel_rfl) ?_ ?_
              rotate_left
              · (intro wS hSw; have hRS := HS1.out.later (After.trans (After.drew (After.refl _)) hSw); obtain ⟨c0, c1, c2, -, -, -⟩ := row_facts hRS.board; go_simp; try with_reducible rfl)
              try simp only [Act.put, List.getElem_toArray, List.getElem_cons_succ, List.getElem_cons_zero, List.setIfInBounds_toArray, List.set_cons_zero, List.set_cons_succ]
              refine Script.load (i := 5) (v := ?_) rfl (by kernel_rfl) (by kernel_rfl) (fun _ _ _ h => h) (by kernel_rfl) ?_ ?_
              rotate_left
              · (intro wS hSw; have hRS := HS1.out.later (After.trans (After.drew (After.refl _)) hSw); obtain ⟨c0, c1, c2, -, -, -⟩ := row_facts hRS.board; go_simp; try with_reducible rfl)
              try simp only [Act.put, List.getElem_toArray, List.getElem_cons_succ, List.getElem_cons_zero, List.setIfInBounds_toArray, List.set_cons_zero, List.set_cons_succ]
              refine Script.load (i := 6) (v := ?_) rfl (by kernel_rfl) (by kernel_rfl) (fun _ _ _ h => h) (by kernel_rfl) ?_ ?_
              rotate_left
              · (intro wS hSw; have hRS := HS1.out.later (After.trans (After.drew (After.refl _)) hSw); obtain ⟨c0, c1, c2, -, -, -⟩ := row_facts hRS.board; go_simp; try with_reducible rfl)
              try simp only [Act.put, List.getElem_toArray, List.getElem_cons_succ, List.getElem_cons_zero, List.setIfInBounds_toArray, List.set_cons_zero, List.set_cons_succ]
              refine Script.load (i := 7) (v := ?_) rfl (by kernel_rfl) (by kernel_rfl) (fun _ _ _ h => h) (by kernel_rfl) ?_ ?_
              rotate_left
              · (intro wS hSw; have hRS := HS1.out.later (After.trans (After.drew (After.refl _)) hSw); obtain ⟨c0, c1, c2, -, -, -⟩ := row_facts hRS.board; go_simp; try with_reducible rfl)
              try simp only [Act.put, List.getElem_toArray, List.getElem_cons_succ, List.getElem_cons_zero, List.setIfInBounds_toArray, List.set_cons_zero, List.set_cons_succ]
              refine Script.load (i := 8) (v := ?_) rfl (by kernel_rfl) (by kernel_rfl) (fun _ _ _ h => h) (by kernel_rfl) ?_ ?_
              rotate_left
              · (intro wS hSw; have hRS := HS1.out.later (After.trans (After.drew (After.refl _)) hSw); obtain ⟨c0, c1, c2, -, -, -⟩ := row_facts hRS.board; go_simp; try with_reducible rfl)
              try simp only [Act.put, List.getElem_toArray, List.getElem_cons_succ, List.getElem_cons_zero, List.setIfInBounds_toArray, List.set_cons_zero, List.set_cons_succ]
              refine Script.skip (i := 9) rfl (by kernel_rfl) (by kernel_rfl) (fun _ _ _ h => h) (by kernel_rfl) ?_
              try simp only [Act.put, List.getElem_toArray, List.getElem_cons_succ, List.getElem_cons_zero, List.setIfInBounds_toArray, List.set_cons_zero, List.set_cons_succ]
              refine Script.skip (i := 10) rfl (by kernel_rfl) (by kernel_rfl) (fun _ _ _ h => h) (by kernel_rfl) ?_
              try simp only [Act.put, List.getElem_toArray, List.getElem_cons_succ, List.getElem_cons_zero, List.setIfInBounds_toArray, List.set_cons_zero, List.set_cons_succ]
              refine Script.skip (i := 11) rfl (by kernel_rfl) (by kernel_rfl) (fun _ _ _ h => h) (by kernel_rfl) ?_
              try simp only [Act.put, List.getElem_toArray, List.getElem_cons_succ, List.getElem_cons_zero, List.setIfInBounds_toArray, List.set_cons_zero, List.set_cons_succ]
              refine Script.skip (i := 12) rfl (by kernel_rfl) (by kernel_rfl) (fun _ _ _ h => h) (by kernel_rfl) ?_
              try simp only [Act.put, List.getElem_toArray, List.getElem_cons_succ, List.getElem_cons_zero, List.setIfInBounds_toArray, List.set_cons_zero, List.set_cons_succ]
              refine Script.skip (i := 13) rfl (by kernel_rfl) (by kernel_rfl) (fun _ _ _ h => h) (by kernel_rfl) ?_
              try simp only [Act.put, List.getElem_toArray, List.getElem_cons_succ, List.getElem_cons_zero, List.setIfInBounds_toArray, List.set_cons_zero, List.set_cons_succ]
              refine Script.skip (i := 14) rfl (by kernel_rfl) (by kernel_rfl) (fun _ _ _ h => h) (by kernel_rfl) ?_
              try simp only [Act.put, List.getElem_toArray, List.getElem_cons_succ, List.getElem_cons_zero, List.setIfInBounds_toArray, List.set_cons_zero, List.set_cons_succ]
              refine Script.skip (i := 15) rfl (by kernel_rfl) (by kernel_rfl) (fun _ _ _ h => h) (by kernel_rfl) ?_
              try simp only [Act.put, List.getElem_toArray, List.getElem_cons_succ, List.getElem_cons_zero, List.setIfInBounds_toArray, List.set_cons_zero, List.set_cons_succ]
              refine Script.skip (i := 16) rfl (by kernel_rfl) (by kernel_rfl) (fun _ _ _ h => h) (by kernel_rfl) ?_
              try simp only [Act.put, List.getElem_toArray, List.getElem_cons_succ, List.getElem_cons_zero, List.setIfInBounds_toArray, List.set_cons_zero, List.set_cons_succ]
              refine Script.skip (i := 17) rfl (by kernel_rfl) (by kernel_rfl) (fun _ _ _ h => h) (by kernel_rfl) ?_
              try simp only [Act.put, List.getElem_toArray, List.getElem_cons_succ, List.getElem_cons_zero, List.setIfInBounds_toArray, List.set_cons_zero, List.set_cons_succ]
              refine Script.skip (i := 18) rfl (by kernel_rfl) (by kernel_rfl) (fun _ _ _ h => h) (by kernel_rfl) ?_
              try simp only [Act.put, List.getElem_toArray, List.getElem_cons_succ, List.getElem_cons_zero, List.setIfInBounds_toArray, List.set_cons_zero, List.set_cons_succ]
              refine Script.skip (i := 19) rfl (by kernel_rfl) (by kernel_rfl) (fun _ _ _ h => h) (by kernel_rfl) ?_
              try simp only [Act.put, List.getElem_toArray, List.getElem_cons_succ, List.getElem_cons_zero, List.setIfInBounds_toArray, List.set_cons_zero, List.set_cons_succ]
              refine Script.skip (i := 20) rfl (by kernel_rfl) (by kernel_rfl) (fun _ _ _ h => h) (by kernel_rfl) ?_
              try simp only [Act.put, List.getElem_toArray, List.getElem_cons_succ, List.getElem_cons_zero, List.setIfInBounds_toArray, List.set_cons_zero, List.set_cons_succ]
              refine Script.load (i := 21) (v := ?_) rfl (by kernel_rfl) (by kernel_rfl) (fun _ _ _ h => h) (by kernel_rfl) ?_ ?_
              rotate_left
              · (intro wS hSw; have hRS := HS1.out.later (After.trans (After.drew (After.refl _)) hSw); obtain ⟨c0, c1, c2, -, -, -⟩ := row_facts hRS.board; go_simp; try with_reducible rfl)
              try simp only [Act.put, List.getElem_toArray, List.getElem_cons_succ, List.getElem_cons_zero, List.setIfInBounds_toArray, List.set_cons_zero, List.set_cons_succ]
              refine Script.load (i := 22) (v := ?_) rfl (by kernel_rfl) (by kernel_rfl) (fun _ _ _ h => h) (by kernel_rfl) ?_ ?_
              rotate_left
              · (intro wS hSw; have hRS := HS1.out.later (After.trans (After.drew (After.refl _)) hSw); obtain ⟨c0, c1, c2, -, -, -⟩ := row_facts hRS.board; go_simp; try with_reducible rfl)
              try simp only [Act.put, List.getElem_toArray, List.getElem_cons_succ, List.getElem_cons_zero, List.setIfInBounds_toArray, List.set_cons_zero, List.set_cons_succ]
              refine Script.load (i := 23) (v := ?_) rfl (by kernel_rfl) (by kernel_rfl) (fun _ _ _ h => h) (by kernel_rfl) ?_ ?_
              rotate_left
              · (intro wS hSw; have hRS := HS1.out.later (After.trans (After.drew (After.refl _)) hSw); obtain ⟨c0, c1, c2, -, -, -⟩ := row_facts hRS.board; go_simp; try with_reducible rfl)
              try simp only [Act.put, List.getElem_toArray, List.getElem_cons_succ, List.getElem_cons_zero, List.setIfInBounds_toArray, List.set_cons_zero, List.set_cons_succ]
              refine Script.load (i := 24) (v := ?_) rfl (by kernel_rfl) (by kernel_rfl) (fun _ _ _ h => h) (by kernel_rfl) ?_ ?_
              rotate_left
              · (intro wS hSw; have hRS := HS1.out.later (After.trans (After.drew (After.refl _)) hSw); obtain ⟨c0, c1, c2, -, -, -⟩ := row_facts hRS.board; go_simp; try with_reducible rfl)
              try simp only [Act.put, List.getElem_toArray, List.getElem_cons_succ, List.getElem_cons_zero, List.setIfInBounds_toArray, List.set_cons_zero, List.set_cons_succ]
              refine Script.load (i := 25) (v := ?_) rfl (by kernel_rfl) (by kernel_rfl) (fun _ _ _ h => h) (by kernel_rfl) ?_ ?_
              rotate_left
              · (intro wS hSw; have hRS := HS1.out.later (After.trans (After.drew (After.refl _)) hSw); obtain ⟨c0, c1, c2, -, -, -⟩ := row_facts hRS.board; go_simp; try with_reducible rfl)
              try simp only [Act.put, List.getElem_toArray, List.getElem_cons_succ, List.getElem_cons_zero, List.setIfInBounds_toArray, List.set_cons_zero, List.set_cons_succ]
              refine Script.load (i := 26) (v := ?_) rfl (by kernel_rfl) (by kernel_rfl) (fun _ _ _ h => h) (by kernel_rfl) ?_ ?_
              rotate_left
              · (intro wS hSw; have hRS := HS1.out.later (After.trans (After.drew (After.refl _)) hSw); obtain ⟨c0, c1, c2, -, -, -⟩ := row_facts hRS.board; go_simp; try with_reducible rfl)
              try simp only [Act.put, List.getElem_toArray, List.getElem_cons_succ, List.getElem_cons_zero, List.setIfInBounds_toArray, List.set_cons_zero, List.set_cons_succ]
              refine Script.one (i := 27) rfl (by kernel_rfl) (by kernel_rfl) ?_
              intro wO hO K hK; have hSw := hO; have hRS := HS1.out.later (After.trans (After.drew (After.refl _)) hSw); obtain ⟨c0, c1, c2, -, -, -⟩ := row_facts hRS.board; go_simp
              clear hSw
              go_at_call 15; refine (CF.out _).mono ?_; rintro e wv ⟨vf, rfl, hhf, hbc⟩; rw [NF.out] at hhf; obtain ⟨fa, fc, rfl⟩ := one_form hhf
              refine hK.out _ _ hbc ?_
              clear hK K
              try simp only [Act.put, List.getElem_toArray, List.getElem_cons_succ, List.getElem_cons_zero, List.setIfInBounds_toArray, List.set_cons_zero, List.set_cons_succ]
              have HS2 := Lib.hid (HS1.out.later (After.trans (After.drew (After.refl _)) (After.trans hO hbc)))
              clear c0 c1 c2 hRS hbc hO
              refine Script.load (i := 28) (v := ?_) rfl (by kernel_rfl) (by kernel_rfl) (fun _ _ _ h => h) (by kernel_rfl) ?_ ?_
              rotate_left
              · (intro wS hSw; have hRS := HS2.out.later hSw; obtain ⟨c0, c1, c2, -, -, -⟩ := row_facts hRS.board; go_simp; try with_reducible rfl)
              try simp only [Act.put, List.getElem_toArray, List.getElem_cons_succ, List.getElem_cons_zero, List.setIfInBounds_toArray, List.set_cons_zero, List.set_cons_succ]
              refine Script.load (i := 29) (v := ?_) rfl (by kernel_rfl) (by kernel_rfl) (fun _ _ _ h => h) (by kernel_rfl) ?_ ?_
              rotate_left
              · (intro wS hSw; have hRS := HS2.out.later hSw; obtain ⟨c0, c1, c2, -, -, -⟩ := row_facts hRS.board; go_simp; try with_reducible rfl)
              try simp only [Act.put, List.getElem_toArray, List.getElem_cons_succ, List.getElem_cons_zero, List.setIfInBounds_toArray, List.set_cons_zero, List.set_cons_succ]
              refine Script.load (i := 30) (v := ?_) rfl (by kernel_rfl) (by kernel_rfl) (fun _ _ _ h => h) (by kernel_rfl) ?_ ?_
              rotate_left
              · (intro wS hSw; have hRS := HS2.out.later hSw; obtain ⟨c0, c1, c2, -, -, -⟩ := row_facts hRS.board; go_simp; try with_reducible rfl)
              try simp only [Act.put, List.getElem_toArray, List.getElem_cons_succ, List.getElem_cons_zero, List.setIfInBounds_toArray, List.set_cons_zero, List.set_cons_succ]
              refine Script.load (i := 31) (v := ?_) rfl (by kernel_rfl) (by kernel_rfl) (fun _ _ _ h => h) (by kernel_rfl) ?_ ?_
              rotate_left
              · (intro wS hSw; have hRS := HS2.out.later hSw; obtain ⟨c0, c1, c2, -, -, -⟩ := row_facts hRS.board; go_simp; try with_reducible rfl)
              try simp only [Act.put, List.getElem_toArray, List.getElem_cons_succ, List.getElem_cons_zero, List.setIfInBounds_toArray, List.set_cons_zero, List.set_cons_succ]
              refine Script.load (i := 32) (v := ?_) rfl (by kernel_rfl) (by kernel_rfl) (fun _ _ _ h => h) (by kernel_rfl) ?_ ?_
              rotate_left
              · (intro wS hSw; have hRS := HS2.out.later hSw; obtain ⟨c0, c1, c2, -, -, -⟩ := row_facts hRS.board; go_simp; try with_reducible rfl)
              try simp only [Act.put, List.getElem_toArray, List.getElem_cons_succ, List.getElem_cons_zero, List.setIfInBounds_toArray, List.set_cons_zero, List.set_cons_succ]
              refine Script.load (i := 33) (v := ?_) rfl (by kernel_rfl) (by kernel_rfl) (fun _ _ _ h => h) (by kernel_rfl) ?_ ?_
              rotate_left
              · (intro wS hSw; have hRS := HS2.out.later hSw; obtain ⟨c0, c1, c2, -, -, -⟩ := row_facts hRS.board; go_simp; try with_reducible rfl)
              try simp only [Act.put, List.getElem_toArray, List.getElem_cons_succ, List.getElem_cons_zero, List.setIfInBounds_toArray, List.set_cons_zero, List.set_cons_succ]
              refine Script.load (i := 34) (v := ?_) rfl (by kernel_rfl) (by kernel_rfl) (fun _ _ _ h => h) (by kernel_rfl) ?_ ?_
              rotate_left
              · (intro wS hSw; have hRS := HS2.out.later hSw; obtain ⟨c0, c1, c2, -, -, -⟩ := row_facts hRS.board; go_simp; try with_reducible rfl)
              try simp only [Act.put, List.getElem_toArray, List.getElem_cons_succ, List.getElem_cons_zero, List.setIfInBounds_toArray, List.set_cons_zero, List.set_cons_succ]
              refine Script.load (i := 35) (v := ?_) rfl (by kernel_rfl) (by kernel_rfl) (fun _ _ _ h => h) (by kernel_rfl) ?_ ?_
              rotate_left
              · (intro wS hSw; have hRS := HS2.out.later hSw; obtain ⟨c0, c1, c2, -, -, -⟩ := row_facts hRS.board; go_simp; try with_reducible rfl)
              try simp only [Act.put, List.getElem_toArray, List.getElem_cons_succ, List.getElem_cons_zero, List.setIfInBounds_toArray, List.set_cons_zero, List.set_cons_succ]
              refine Script.skip (i := 36) rfl (by kernel_rfl) (by kernel_rfl) (fun _ _ _ h => h) (by kernel_rfl) ?_
              try simp only [Act.put, List.getElem_toArray, List.getElem_cons_succ, List.getElem_cons_zero, List.setIfInBounds_toArray, List.set_cons_zero, List.set_cons_succ]
              refine Script.skip (i := 37) rfl (by kernel_rfl) (by kernel_rfl) (fun _ _ _ h => h) (by kernel_rfl) ?_
              try simp only [Act.put, List.getElem_toArray, List.getElem_cons_succ, List.getElem_cons_zero, List.setIfInBounds_toArray, List.set_cons_zero, List.set_cons_succ]
              refine Script.skip (i := 38) rfl (by kernel_rfl) (by kernel_rfl) (fun _ _ _ h => h) (by kernel_rfl) ?_
              try simp only [Act.put, List.getElem_toArray, List.getElem_cons_succ, List.getElem_cons_zero, List.setIfInBounds_toArray, List.set_cons_zero, List.set_cons_succ]
              refine Script.skip (i := 39) rfl (by kernel_rfl) (by kernel_rfl) (fun _ _ _ h => h) (by kernel_rfl) ?_
              try simp only [Act.put, List.getElem_toArray, List.getElem_cons_succ, List.getElem_cons_zero, List.setIfInBounds_toArray, List.set_cons_zero, List.set_cons_succ]
              refine Script.skip (i := 40) rfl (by kernel_rfl) (by kernel_rfl) (fun _ _ _ h => h) (by kernel_rfl) ?_
              try simp only [Act.put, List.getElem_toArray, List.getElem_cons_succ, List.getElem_cons_zero, List.setIfInBounds_toArray, List.set_cons_zero, List.set_cons_succ]
              refine Script.skip (i := 41) rfl (by kernel_rfl) (by kernel_rfl) (fun _ _ _ h => h) (by kernel_rfl) ?_
              try simp only [Act.put, List.getElem_toArray, List.getElem_cons_succ, List.getElem_cons_zero, List.setIfInBounds_toArray, List.set_cons_zero, List.set_cons_succ]
              refine Script.skip (i := 42) rfl (by kernel_rfl) (by kernel_rfl) (fun _ _ _ h => h) (by kernel_rfl) ?_
              try simp only [Act.put, List.getElem_toArray, List.getElem_cons_succ, List.getElem_cons_zero, List.setIfInBounds_toArray, List.set_cons_zero, List.set_cons_succ]
              refine Script.load (i := 43) (v := ?_) rfl (by kernel_rfl) (by kernel_rfl) (fun _ _ _ h => h) (by kernel_rfl) ?_ ?_
              rotate_left
              · (intro wS hSw; have hRS := HS2.out.later hSw; obtain ⟨c0, c1, c2, -, -, -⟩ := row_facts hRS.board; go_simp; try with_reducible rfl)
              try simp only [Act.put, List.getElem_toArray, List.getElem_cons_succ, List.getElem_cons_zero, List.setIfInBounds_toArray, List.set_cons_zero, List.set_cons_succ]
              refine Script.load (i := 44) (v := ?_) rfl (by kernel_rfl) (by kernel_rfl) (fun _ _ _ h => h) (by kernel_rfl) ?_ ?_
              rotate_left
              · (intro wS hSw; have hRS := HS2.out.later hSw; obtain ⟨c0, c1, c2, -, -, -⟩ := row_facts hRS.board; go_simp; try with_reducible rfl)
              try simp only [Act.put, List.getElem_toArray, List.getElem_cons_succ, List.getElem_cons_zero, List.setIfInBounds_toArray, List.set_cons_zero, List.set_cons_succ]
              refine Script.load (i := 45) (v := ?_) rfl (by kernel_rfl) (by kernel_rfl) (fun _ _ _ h => h) (by kernel_rfl) ?_ ?_
              rotate_left
              · (intro wS hSw; have hRS := HS2.out.later hSw; obtain ⟨c0, c1, c2, -, -, -⟩ := row_facts hRS.board; go_simp; try with_reducible rfl)
              try simp only [Act.put, List.getElem_toArray, List.getElem_cons_succ, List.getElem_cons_zero, List.setIfInBounds_toArray, List.set_cons_zero, List.set_cons_succ]
              refine Script.done (by kernel_rfl) ?_
              intro wD hD hG
              have HS3 := Lib.hid (HS2.out.later hD)
              clear hD hG
              go_wp2_with fail
              go_ret
              exact ⟨rfl, HS3.out.below⟩
          · as_aux_lemma =>
              have hnf : decide (0 < nf) = true := hfo
              have hcw : IntKind.i64.wrap (cp - 1) = (ns : Int) := by rw [hss rfl]; exact IntWalk.i64_in _ (by have := HCn.out; omega)
              clear hfo hss
              go_wp2_with fail
              refine wp_region_script (by kernel_rfl) (by kernel_rfl) ?_
              refine Script.load (i := 0) (v := ?_) rfl (by kernel_rfl) (by kernel_rfl) (fun _ _ _ h => h) (by kernel_rfl) ?_ ?_
              rotate_left
              · (intro wS hSw; have hRS := HS1.out.later (After.trans (After.drew (After.refl _)) hSw); obtain ⟨c0, c1, c2, -, -, -⟩ := row_facts hRS.board; go_simp; try with_reducible rfl)
              try simp only [Act.put, List.getElem_toArray, List.getElem_cons_succ, List.getElem_cons_zero, List.setIfInBounds_toArray, List.set_cons_zero, List.set_cons_succ]
              refine Script.load (i := 1) (v := ?_) rfl (by kernel_rfl) (by kernel_rfl) (fun _ _ _ h => h) (by kernel_rfl) ?_ ?_
              rotate_left
              · (intro wS hSw; have hRS := HS1.out.later (After.trans (After.drew (After.refl _)) hSw); obtain ⟨c0, c1, c2, -, -, -⟩ := row_facts hRS.board; go_simp; try with_reducible rfl)
              try simp only [Act.put, List.getElem_toArray, List.getElem_cons_succ, List.getElem_cons_zero, List.setIfInBounds_toArray, List.set_cons_zero, List.set_cons_succ]
              refine Script.load (i := 2) (v := ?_) rfl (by kernel_rfl) (by kernel_rfl) (fun _ _ _ h => h) (by kernel_rfl) ?_ ?_
              rotate_left
              · (intro wS hSw; have hRS := HS1.out.later (After.trans (After.drew (After.refl _)) hSw); obtain ⟨c0, c1, c2, -, -, -⟩ := row_facts hRS.board; go_simp; try with_reducible rfl)
              try simp only [Act.put, List.getElem_toArray, List.getElem_cons_succ, List.getElem_cons_zero, List.setIfInBounds_toArray, List.set_cons_zero, List.set_cons_succ]
              refine Script.load (i := 3) (v := ?_) rfl (by kernel_rfl) (by kernel_rfl) (fun _ _ _ h => h) (by kernel_rfl) ?_ ?_
              rotate_left
              · (intro wS hSw; have hRS := HS1.out.later (After.trans (After.drew (After.refl _)) hSw); obtain ⟨c0, c1, c2, -, -, -⟩ := row_facts hRS.board; go_simp; try with_reducible rfl)
              try simp only [Act.put, List.getElem_toArray, List.getElem_cons_succ, List.getElem_cons_zero, List.setIfInBounds_toArray, List.set_cons_zero, List.set_cons_succ]
              refine Script.load (i := 4) (v := ?_) rfl (by kernel_rfl) (by kernel_rfl) (fun _ _ _ h => h) (by kernel_rfl) ?_ ?_
              rotate_left
              · (intro wS hSw; have hRS := HS1.out.later (After.trans (After.drew (After.refl _)) hSw); obtain ⟨c0, c1, c2, -, -, -⟩ := row_facts hRS.board; go_simp; try with_reducible rfl)
              try simp only [Act.put, List.getElem_toArray, List.getElem_cons_succ, List.getElem_cons_zero, List.setIfInBounds_toArray, List.set_cons_zero, List.set_cons_succ]
              refine Script.load (i := 5) (v := ?_) rfl (by kernel_rfl) (by kernel_rfl) (fun _ _ _ h => h) (by kernel_rfl) ?_ ?_
              rotate_left
              · (intro wS hSw; have hRS := HS1.out.later (After.trans (After.drew (After.refl _)) hSw); obtain ⟨c0, c1, c2, -, -, -⟩ := row_facts hRS.board; go_simp; try with_reducible rfl)
              try simp only [Act.put, List.getElem_toArray, List.getElem_cons_succ, List.getElem_cons_zero, List.setIfInBounds_toArray, List.set_cons_zero, List.set_cons_succ]
              refine Script.load (i := 6) (v := ?_) rfl (by kernel_rfl) (by kernel_rfl) (fun _ _ _ h => h) (by kernel_rfl) ?_ ?_
              rotate_left
              · (intro wS hSw; have hRS := HS1.out.later (After.trans (After.drew (After.refl _)) hSw); obtain ⟨c0, c1, c2, -, -, -⟩ := row_facts hRS.board; go_simp; try with_reducible rfl)
              try simp only [Act.put, List.getElem_toArray, List.getElem_cons_succ, List.getElem_cons_zero, List.setIfInBounds_toArray, List.set_cons_zero, List.set_cons_succ]
              refine Script.load (i := 7) (v := ?_) rfl (by kernel_rfl) (by kernel_rfl) (fun _ _ _ h => h) (by kernel_rfl) ?_ ?_
              rotate_left
              · (intro wS hSw; have hRS := HS1.out.later (After.trans (After.drew (After.refl _)) hSw); obtain ⟨c0, c1, c2, -, -, -⟩ := row_facts hRS.board; go_simp; try with_reducible rfl)
              try simp only [Act.put, List.getElem_toArray, List.getElem_cons_succ, List.getElem_cons_zero, List.setIfInBounds_toArray, List.set_cons_zero, List.set_cons_succ]
              refine Script.load (i := 8) (v := ?_) rfl (by kernel_rfl) (by kernel_rfl) (fun _ _ _ h => h) (by kernel_rfl) ?_ ?_
              rotate_left
              · (intro wS hSw; have hRS := HS1.out.later (After.trans (After.drew (After.refl _)) hSw); obtain ⟨c0, c1, c2, -, -, -⟩ := row_facts hRS.board; go_simp; try with_reducible rfl)
              try simp only [Act.put, List.getElem_toArray, List.getElem_cons_succ, List.getElem_cons_zero, List.setIfInBounds_toArray, List.set_cons_zero, List.set_cons_succ]
              refine Script.skip (i := 9) rfl (by kernel_rfl) (by kernel_rfl) (fun _ _ _ h => h) (by kernel_rfl) ?_
              try simp only [Act.put, List.getElem_toArray, List.getElem_cons_succ, List.getElem_cons_zero, List.setIfInBounds_toArray, List.set_cons_zero, List.set_cons_succ]
              refine Script.skip (i := 10) rfl (by kernel_rfl) (by kernel_rfl) (fun _ _ _ h => h) (by kernel_rfl) ?_
              try simp only [Act.put, List.getElem_toArray, List.getElem_cons_succ, List.getElem_cons_zero, List.setIfInBounds_toArray, List.set_cons_zero, List.set_cons_succ]
              refine Script.skip (i := 11) rfl (by kernel_rfl) (by kernel_rfl) (fun _ _ _ h => h) (by kernel_rfl) ?_
              try simp only [Act.put, List.getElem_toArray, List.getElem_cons_succ, List.getElem_cons_zero, List.setIfInBounds_toArray, List.set_cons_zero, List.set_cons_succ]
              refine Script.skip (i := 12) rfl (by kernel_rfl) (by kernel_rfl) (fun _ _ _ h => h) (by kernel_rfl) ?_
              try simp only [Act.put, List.getElem_toArray, List.getElem_cons_succ, List.getElem_cons_zero, List.setIfInBounds_toArray, List.set_cons_zero, List.set_cons_succ]
              refine Script.skip (i := 13) rfl (by kernel_rfl) (by kernel_rfl) (fun _ _ _ h => h) (by kernel_rfl) ?_
              try simp only [Act.put, List.getElem_toArray, List.getElem_cons_succ, List.getElem_cons_zero, List.setIfInBounds_toArray, List.set_cons_zero, List.set_cons_succ]
              refine Script.skip (i := 14) rfl (by kernel_rfl) (by kernel_rfl) (fun _ _ _ h => h) (by kernel_rfl) ?_
              try simp only [Act.put, List.getElem_toArray, List.getElem_cons_succ, List.getElem_cons_zero, List.setIfInBounds_toArray, List.set_cons_zero, List.set_cons_succ]
              refine Script.skip (i := 15) rfl (by kernel_rfl) (by kernel_rfl) (fun _ _ _ h => h) (by kernel_rfl) ?_
              try simp only [Act.put, List.getElem_toArray, List.getElem_cons_succ, List.getElem_cons_zero, List.setIfInBounds_toArray, List.set_cons_zero, List.set_cons_succ]
              refine Script.skip (i := 16) rfl (by kernel_rfl) (by kernel_rfl) (fun _ _ _ h => h) (by kernel_rfl) ?_
              try simp only [Act.put, List.getElem_toArray, List.getElem_cons_succ, List.getElem_cons_zero, List.setIfInBounds_toArray, List.set_cons_zero, List.set_cons_succ]
              refine Script.skip (i := 17) rfl (by kernel_rfl) (by kernel_rfl) (fun _ _ _ h => h) (by kernel_rfl) ?_
              try simp only [Act.put, List.getElem_toArray, List.getElem_cons_succ, List.getElem_cons_zero, List.setIfInBounds_toArray, List.set_cons_zero, List.set_cons_succ]
              refine Script.skip (i := 18) rfl (by kernel_rfl) (by kernel_rfl) (fun _ _ _ h => h) (by kernel_rfl) ?_
              try simp only [Act.put, List.getElem_toArray, List.getElem_cons_succ, List.getElem_cons_zero, List.setIfInBounds_toArray, List.set_cons_zero, List.set_cons_succ]
              refine Script.skip (i := 19) rfl (by kernel_rfl) (by kernel_rfl) (fun _ _ _ h => h) (by kernel_rfl) ?_
              try simp only [Act.put, List.getElem_toArray, List.getElem_cons_succ, List.getElem_cons_zero, List.setIfInBounds_toArray, List.set_cons_zero, List.set_cons_succ]
              refine Script.skip (i := 20) rfl (by kernel_rfl) (by kernel_rfl) (fun _ _ _ h => h) (by kernel_rfl) ?_
              try simp only [Act.put, List.getElem_toArray, List.getElem_cons_succ, List.getElem_cons_zero, List.setIfInBounds_toArray, List.set_cons_zero, List.set_cons_succ]
              refine Script.load (i := 21) (v := ?_) rfl (by kernel_rfl) (by kernel_rfl) (fun _ _ _ h => h) (by kernel_rfl) ?_ ?_
              rotate_left
              · (intro wS hSw; have hRS := HS1.out.later (After.trans (After.drew (After.refl _)) hSw); obtain ⟨c0, c1, c2, -, -, -⟩ := row_facts hRS.board; go_simp; try with_reducible rfl)
              try simp only [Act.put, List.getElem_toArray, List.getElem_cons_succ, List.getElem_cons_zero, List.setIfInBounds_toArray, List.set_cons_zero, List.set_cons_succ]
              refine Script.load (i := 22) (v := ?_) rfl (by kernel_rfl) (by kernel_rfl) (fun _ _ _ h => h) (by kernel_rfl) ?_ ?_
              rotate_left
              · (intro wS hSw; have hRS := HS1.out.later (After.trans (After.drew (After.refl _)) hSw); obtain ⟨c0, c1, c2, -, -, -⟩ := row_facts hRS.board; go_simp; try with_reducible rfl)
              try simp only [Act.put, List.getElem_toArray, List.getElem_cons_succ, List.getElem_cons_zero, List.setIfInBounds_toArray, List.set_cons_zero, List.set_cons_succ]
              refine Script.load (i := 23) (v := ?_) rfl (by kernel_rfl) (by kernel_rfl) (fun _ _ _ h => h) (by kernel_rfl) ?_ ?_
              rotate_left
              · (intro wS hSw; have hRS := HS1.out.later (After.trans (After.drew (After.refl _)) hSw); obtain ⟨c0, c1, c2, -, -, -⟩ := row_facts hRS.board; go_simp; try with_reducible rfl)
              try simp only [Act.put, List.getElem_toArray, List.getElem_cons_succ, List.getElem_cons_zero, List.setIfInBounds_toArray, List.set_cons_zero, List.set_cons_succ]
              refine Script.load (i := 24) (v := ?_) rfl (by kernel_rfl) (by kernel_rfl) (fun _ _ _ h => h) (by kernel_rfl) ?_ ?_
              rotate_left
              · (intro wS hSw; have hRS := HS1.out.later (After.trans (After.drew (After.refl _)) hSw); obtain ⟨c0, c1, c2, -, -, -⟩ := row_facts hRS.board; go_simp; try with_reducible rfl)
              try simp only [Act.put, List.getElem_toArray, List.getElem_cons_succ, List.getElem_cons_zero, List.setIfInBounds_toArray, List.set_cons_zero, List.set_cons_succ]
              refine Script.load (i := 25) (v := ?_) rfl (by kernel_rfl) (by kernel_rfl) (fun _ _ _ h => h) (by kernel_rfl) ?_ ?_
              rotate_left
              · (intro wS hSw; have hRS := HS1.out.later (After.trans (After.drew (After.refl _)) hSw); obtain ⟨c0, c1, c2, -, -, -⟩ := row_facts hRS.board; go_simp; try with_reducible rfl)
              try simp only [Act.put, List.getElem_toArray, List.getElem_cons_succ, List.getElem_cons_zero, List.setIfInBounds_toArray, List.set_cons_zero, List.set_cons_succ]
              refine Script.load (i := 26) (v := ?_) rfl (by kernel_rfl) (by kernel_rfl) (fun _ _ _ h => h) (by kernel_rfl) ?_ ?_
              rotate_left
              · (intro wS hSw; have hRS := HS1.out.later (After.trans (After.drew (After.refl _)) hSw); obtain ⟨c0, c1, c2, -, -, -⟩ := row_facts hRS.board; go_simp; try with_reducible rfl)
              try simp only [Act.put, List.getElem_toArray, List.getElem_cons_succ, List.getElem_cons_zero, List.setIfInBounds_toArray, List.set_cons_zero, List.set_cons_succ]
              refine Script.one (i := 27) rfl (by kernel_rfl) (by kernel_rfl) ?_
              intro wO hO K hK; have hSw := hO; have hRS := HS1.out.later (After.trans (After.drew (After.refl _)) hSw); obtain ⟨c0, c1, c2, -, -, -⟩ := row_facts hRS.board; go_simp
              clear hSw
              go_at_call 15; refine (CF.out _).mono ?_; rintro e wv ⟨vf, rfl, hhf, hbc⟩; rw [NF.out] at hhf; obtain ⟨fa, fc, rfl⟩ := one_form hhf
              refine hK.out _ _ hbc ?_
              clear hK K
              try simp only [Act.put, List.getElem_toArray, List.getElem_cons_succ, List.getElem_cons_zero, List.setIfInBounds_toArray, List.set_cons_zero, List.set_cons_succ]
              have HS2 := Lib.hid (HS1.out.later (After.trans (After.drew (After.refl _)) (After.trans hO hbc)))
              clear c0 c1 c2 hRS hbc hO
              refine Script.load (i := 28) (v := ?_) rfl (by kernel_rfl) (by kernel_rfl) (fun _ _ _ h => h) (by kernel_rfl) ?_ ?_
              rotate_left
              · (intro wS hSw; have hRS := HS2.out.later hSw; obtain ⟨c0, c1, c2, -, -, -⟩ := row_facts hRS.board; go_simp; try with_reducible rfl)
              try simp only [Act.put, List.getElem_toArray, List.getElem_cons_succ, List.getElem_cons_zero, List.setIfInBounds_toArray, List.set_cons_zero, List.set_cons_succ]
              refine Script.load (i := 29) (v := ?_) rfl (by kernel_rfl) (by kernel_rfl) (fun _ _ _ h => h) (by kernel_rfl) ?_ ?_
              rotate_left
              · (intro wS hSw; have hRS := HS2.out.later hSw; obtain ⟨c0, c1, c2, -, -, -⟩ := row_facts hRS.board; go_simp; try with_reducible rfl)
              try simp only [Act.put, List.getElem_toArray, List.getElem_cons_succ, List.getElem_cons_zero, List.setIfInBounds_toArray, List.set_cons_zero, List.set_cons_succ]
              refine Script.load (i := 30) (v := ?_) rfl (by kernel_rfl) (by kernel_rfl) (fun _ _ _ h => h) (by kernel_rfl) ?_ ?_
              rotate_left
              · (intro wS hSw; have hRS := HS2.out.later hSw; obtain ⟨c0, c1, c2, -, -, -⟩ := row_facts hRS.board; go_simp; try with_reducible rfl)
              try simp only [Act.put, List.getElem_toArray, List.getElem_cons_succ, List.getElem_cons_zero, List.setIfInBounds_toArray, List.set_cons_zero, List.set_cons_succ]
              refine Script.load (i := 31) (v := ?_) rfl (by kernel_rfl) (by kernel_rfl) (fun _ _ _ h => h) (by kernel_rfl) ?_ ?_
              rotate_left
              · (intro wS hSw; have hRS := HS2.out.later hSw; obtain ⟨c0, c1, c2, -, -, -⟩ := row_facts hRS.board; go_simp; try with_reducible rfl)
              try simp only [Act.put, List.getElem_toArray, List.getElem_cons_succ, List.getElem_cons_zero, List.setIfInBounds_toArray, List.set_cons_zero, List.set_cons_succ]
              refine Script.load (i := 32) (v := ?_) rfl (by kernel_rfl) (by kernel_rfl) (fun _ _ _ h => h) (by kernel_rfl) ?_ ?_
              rotate_left
              · (intro wS hSw; have hRS := HS2.out.later hSw; obtain ⟨c0, c1, c2, -, -, -⟩ := row_facts hRS.board; go_simp; try with_reducible rfl)
              try simp only [Act.put, List.getElem_toArray, List.getElem_cons_succ, List.getElem_cons_zero, List.setIfInBounds_toArray, List.set_cons_zero, List.set_cons_succ]
              refine Script.load (i := 33) (v := ?_) rfl (by kernel_rfl) (by kernel_rfl) (fun _ _ _ h => h) (by kernel_rfl) ?_ ?_
              rotate_left
              · (intro wS hSw; have hRS := HS2.out.later hSw; obtain ⟨c0, c1, c2, -, -, -⟩ := row_facts hRS.board; go_simp; try with_reducible rfl)
              try simp only [Act.put, List.getElem_toArray, List.getElem_cons_succ, List.getElem_cons_zero, List.setIfInBounds_toArray, List.set_cons_zero, List.set_cons_succ]
              refine Script.load (i := 34) (v := ?_) rfl (by kernel_rfl) (by kernel_rfl) (fun _ _ _ h => h) (by kernel_rfl) ?_ ?_
              rotate_left
              · (intro wS hSw; have hRS := HS2.out.later hSw; obtain ⟨c0, c1, c2, -, -, -⟩ := row_facts hRS.board; go_simp; try with_reducible rfl)
              try simp only [Act.put, List.getElem_toArray, List.getElem_cons_succ, List.getElem_cons_zero, List.setIfInBounds_toArray, List.set_cons_zero, List.set_cons_succ]
              refine Script.load (i := 35) (v := ?_) rfl (by kernel_rfl) (by kernel_rfl) (fun _ _ _ h => h) (by kernel_rfl) ?_ ?_
              rotate_left
              · (intro wS hSw; have hRS := HS2.out.later hSw; obtain ⟨c0, c1, c2, -, -, -⟩ := row_facts hRS.board; go_simp; try with_reducible rfl)
              try simp only [Act.put, List.getElem_toArray, List.getElem_cons_succ, List.getElem_cons_zero, List.setIfInBounds_toArray, List.set_cons_zero, List.set_cons_succ]
              refine Script.load (i := 36) (v := ?_) rfl (by kernel_rfl) (by kernel_rfl) (fun _ _ _ h => h) (by kernel_rfl) ?_ ?_
              rotate_left
              · (intro wS hSw; have hRS := HS2.out.later hSw; obtain ⟨c0, c1, c2, -, -, -⟩ := row_facts hRS.board; go_simp; try with_reducible rfl)
              try simp only [Act.put, List.getElem_toArray, List.getElem_cons_succ, List.getElem_cons_zero, List.setIfInBounds_toArray, List.set_cons_zero, List.set_cons_succ]
              refine Script.load (i := 37) (v := ?_) rfl (by kernel_rfl) (by kernel_rfl) (fun _ _ _ h => h) (by kernel_rfl) ?_ ?_
              rotate_left
              · (intro wS hSw; have hRS := HS2.out.later hSw; obtain ⟨c0, c1, c2, -, -, -⟩ := row_facts hRS.board; go_simp; try with_reducible rfl)
              try simp only [Act.put, List.getElem_toArray, List.getElem_cons_succ, List.getElem_cons_zero, List.setIfInBounds_toArray, List.set_cons_zero, List.set_cons_succ]
              refine Script.load (i := 38) (v := ?_) rfl (by kernel_rfl) (by kernel_rfl) (fun _ _ _ h => h) (by kernel_rfl) ?_ ?_
              rotate_left
              · (intro wS hSw; have hRS := HS2.out.later hSw; obtain ⟨c0, c1, c2, -, -, -⟩ := row_facts hRS.board; go_simp; try with_reducible rfl)
              try simp only [Act.put, List.getElem_toArray, List.getElem_cons_succ, List.getElem_cons_zero, List.setIfInBounds_toArray, List.set_cons_zero, List.set_cons_succ]
              refine Script.load (i := 39) (v := ?_) rfl (by kernel_rfl) (by kernel_rfl) (fun _ _ _ h => h) (by kernel_rfl) ?_ ?_
              rotate_left
              · (intro wS hSw; have hRS := HS2.out.later hSw; obtain ⟨c0, c1, c2, -, -, -⟩ := row_facts hRS.board; go_simp; try with_reducible rfl)
              try simp only [Act.put, List.getElem_toArray, List.getElem_cons_succ, List.getElem_cons_zero, List.setIfInBounds_toArray, List.set_cons_zero, List.set_cons_succ]
              refine Script.call (i := 40) (v := ?_) rfl (by kernel_rfl) (by kernel_rfl) (fun _ _ _ h => h) (by kernel_rfl) ?_ ?_
              rotate_left
              · (intro wS hSw K hK; have hRS := HS2.out.later hSw; obtain ⟨c0, c1, c2, -, -, -⟩ := row_facts hRS.board; go_simp; go_at_call 16; refine (CPg.out _).mono ?_; rintro e wv ⟨rfl, hbc⟩; exact hK.out _ hbc)
              try simp only [Act.put, List.getElem_toArray, List.getElem_cons_succ, List.getElem_cons_zero, List.setIfInBounds_toArray, List.set_cons_zero, List.set_cons_succ]
              refine Script.load (i := 41) (v := ?_) rfl (by kernel_rfl) (by kernel_rfl) (fun _ _ _ h => h) (by kernel_rfl) ?_ ?_
              rotate_left
              · (intro wS hSw; have hRS := HS2.out.later hSw; obtain ⟨c0, c1, c2, -, -, -⟩ := row_facts hRS.board; go_simp; try with_reducible rfl)
              try simp only [Act.put, List.getElem_toArray, List.getElem_cons_succ, List.getElem_cons_zero, List.setIfInBounds_toArray, List.set_cons_zero, List.set_cons_succ]
              refine Script.load (i := 42) (v := ?_) rfl (by kernel_rfl) (by kernel_rfl) (fun _ _ _ h => h) (by kernel_rfl) ?_ ?_
              rotate_left
              · (intro wS hSw; have hRS := HS2.out.later hSw; obtain ⟨c0, c1, c2, -, -, -⟩ := row_facts hRS.board; go_simp; try with_reducible rfl)
              try simp only [Act.put, List.getElem_toArray, List.getElem_cons_succ, List.getElem_cons_zero, List.setIfInBounds_toArray, List.set_cons_zero, List.set_cons_succ]
              refine Script.load (i := 43) (v := ?_) rfl (by kernel_rfl) (by kernel_rfl) (fun _ _ _ h => h) (by kernel_rfl) ?_ ?_
              rotate_left
              · (intro wS hSw; have hRS := HS2.out.later hSw; obtain ⟨c0, c1, c2, -, -, -⟩ := row_facts hRS.board; go_simp; try with_reducible rfl)
              try simp only [Act.put, List.getElem_toArray, List.getElem_cons_succ, List.getElem_cons_zero, List.setIfInBounds_toArray, List.set_cons_zero, List.set_cons_succ]
              refine Script.load (i := 44) (v := ?_) rfl (by kernel_rfl) (by kernel_rfl) (fun _ _ _ h => h) (by kernel_rfl) ?_ ?_
              rotate_left
              · (intro wS hSw; have hRS := HS2.out.later hSw; obtain ⟨c0, c1, c2, -, -, -⟩ := row_facts hRS.board; go_simp; try with_reducible rfl)
              try simp only [Act.put, List.getElem_toArray, List.getElem_cons_succ, List.getElem_cons_zero, List.setIfInBounds_toArray, List.set_cons_zero, List.set_cons_succ]
              refine Script.load (i := 45) (v := ?_) rfl (by kernel_rfl) (by kernel_rfl) (fun _ _ _ h => h) (by kernel_rfl) ?_ ?_
              rotate_left
              · (intro wS hSw; have hRS := HS2.out.later hSw; obtain ⟨c0, c1, c2, -, -, -⟩ := row_facts hRS.board; go_simp; try with_reducible rfl)
              try simp only [Act.put, List.getElem_toArray, List.getElem_cons_succ, List.getElem_cons_zero, List.setIfInBounds_toArray, List.set_cons_zero, List.set_cons_succ]
              refine Script.done (by kernel_rfl) ?_
              intro wD hD hG
              have HS3 := Lib.hid (HS2.out.later hD)
              clear hD hG
              go_wp2_with fail
              go_ret
              exact ⟨rfl, HS3.out.below⟩
        · have hw0 : ((nw : Int) == 0) = false := by
            have := NW.out
            rw [h1] at this
            simp only [List.length_cons] at this
            simp; omega
          have hg0 : 0 < d := by
            have := NG.out
            rw [h2] at this
            simp only [List.length_cons] at this
            omega
          have hgd : decide (0 < d) = true := decide_eq_true hg0
          have hwn : 0 < nw := by
            have : nw ≠ 0 := by simpa using hw0
            omega
          have e1 : ws[0]? = some (f, o, u) := by rw [h1]; rfl
          have e2 : gs[0]? = some (f, o, u) := by rw [h2]; rfl
          obtain ⟨gw, rfl⟩ := row_line HS1.out.ws NW.out e1
          obtain ⟨gg, rfl⟩ := row_line HS1.out.gs NG.out e2
          have HCc : Hid (∀ w', WSt w q a b z B1 B2 B3 (some ⟨gw, 0, none⟩) nw wk ws (some ⟨gg, 0, none⟩) d gc gs ja k jc js w' → (w'.cell? ⟨gw, 0, none⟩ = some (.int .i64 f) ∧ w'.cell? ⟨gw, 1, none⟩ = some (.int .i64 o) ∧ w'.cell? ⟨gw, 2, none⟩ = some (.int .i64 u)) ∧ w'.cell? ⟨gg, 0, none⟩ = some (.int .i64 f) ∧ w'.cell? ⟨gg, 1, none⟩ = some (.int .i64 o) ∧ w'.cell? ⟨gg, 2, none⟩ = some (.int .i64 u)) := fun w' h => by
            have x1 := line_cells h.ws NW.out e1
            have x2 := line_cells h.gs NG.out e2
            simp only [Nat.zero_mul, Nat.zero_add] at x1 x2
            exact ⟨x1, x2⟩
          clear h1 h2 FH e1 e2
          cases single
          · as_aux_lemma =>
              have hnf : decide (0 < nf) = false := hfo
              clear hfo hss
              go_wp2_with fail
              refine wp_region_script (by kernel_rfl) (by kernel_rfl) ?_
              refine Script.load (i := 0) (v := ?_) rfl (by kernel_rfl) (by kernel_rfl) (fun _ _ _ h => h) (by kernel_rfl) ?_ ?_
              rotate_left
              · (intro wS hSw; have hRS := HS1.out.later (After.trans (After.drew (After.refl _)) hSw); obtain ⟨c0, c1, c2, -, -, -⟩ := row_facts hRS.board; obtain ⟨⟨y0, y1, y2⟩, x0, x1, x2⟩ := HCc.out _ hRS; go_simp; try with_reducible rfl)
              try simp only [Act.put, List.getElem_toArray, List.getElem_cons_succ, List.getElem_cons_zero, List.setIfInBounds_toArray, List.set_cons_zero, List.set_cons_succ]
              refine Script.load (i := 1) (v := ?_) rfl (by kernel_rfl) (by kernel_rfl) (fun _ _ _ h => h) (by kernel_rfl) ?_ ?_
              rotate_left
              · (intro wS hSw; have hRS := HS1.out.later (After.trans (After.drew (After.refl _)) hSw); obtain ⟨c0, c1, c2, -, -, -⟩ := row_facts hRS.board; obtain ⟨⟨y0, y1, y2⟩, x0, x1, x2⟩ := HCc.out _ hRS; go_simp; try with_reducible rfl)
              try simp only [Act.put, List.getElem_toArray, List.getElem_cons_succ, List.getElem_cons_zero, List.setIfInBounds_toArray, List.set_cons_zero, List.set_cons_succ]
              refine Script.load (i := 2) (v := ?_) rfl (by kernel_rfl) (by kernel_rfl) (fun _ _ _ h => h) (by kernel_rfl) ?_ ?_
              rotate_left
              · (intro wS hSw; have hRS := HS1.out.later (After.trans (After.drew (After.refl _)) hSw); obtain ⟨c0, c1, c2, -, -, -⟩ := row_facts hRS.board; obtain ⟨⟨y0, y1, y2⟩, x0, x1, x2⟩ := HCc.out _ hRS; go_simp; try with_reducible rfl)
              try simp only [Act.put, List.getElem_toArray, List.getElem_cons_succ, List.getElem_cons_zero, List.setIfInBounds_toArray, List.set_cons_zero, List.set_cons_succ]
              refine Script.load (i := 3) (v := ?_) rfl (by kernel_rfl) (by kernel_rfl) (fun _ _ _ h => h) (by kernel_rfl) ?_ ?_
              rotate_left
              · (intro wS hSw; have hRS := HS1.out.later (After.trans (After.drew (After.refl _)) hSw); obtain ⟨c0, c1, c2, -, -, -⟩ := row_facts hRS.board; obtain ⟨⟨y0, y1, y2⟩, x0, x1, x2⟩ := HCc.out _ hRS; go_simp; try with_reducible rfl)
              try simp only [Act.put, List.getElem_toArray, List.getElem_cons_succ, List.getElem_cons_zero, List.setIfInBounds_toArray, List.set_cons_zero, List.set_cons_succ]
              refine Script.load (i := 4) (v := ?_) rfl (by kernel_rfl) (by kernel_rfl) (fun _ _ _ h => h) (by kernel_rfl) ?_ ?_
              rotate_left
              · (intro wS hSw; have hRS := HS1.out.later (After.trans (After.drew (After.refl _)) hSw); obtain ⟨c0, c1, c2, -, -, -⟩ := row_facts hRS.board; obtain ⟨⟨y0, y1, y2⟩, x0, x1, x2⟩ := HCc.out _ hRS; go_simp; try with_reducible rfl)
              try simp only [Act.put, List.getElem_toArray, List.getElem_cons_succ, List.getElem_cons_zero, List.setIfInBounds_toArray, List.set_cons_zero, List.set_cons_succ]
              refine Script.load (i := 5) (v := ?_) rfl (by kernel_rfl) (by kernel_rfl) (fun _ _ _ h => h) (by kernel_rfl) ?_ ?_
              rotate_left
              · (intro wS hSw; have hRS := HS1.out.later (After.trans (After.drew (After.refl _)) hSw); obtain ⟨c0, c1, c2, -, -, -⟩ := row_facts hRS.board; obtain ⟨⟨y0, y1, y2⟩, x0, x1, x2⟩ := HCc.out _ hRS; go_simp; try with_reducible rfl)
              try simp only [Act.put, List.getElem_toArray, List.getElem_cons_succ, List.getElem_cons_zero, List.setIfInBounds_toArray, List.set_cons_zero, List.set_cons_succ]
              refine Script.load (i := 6) (v := ?_) rfl (by kernel_rfl) (by kernel_rfl) (fun _ _ _ h => h) (by kernel_rfl) ?_ ?_
              rotate_left
              · (intro wS hSw; have hRS := HS1.out.later (After.trans (After.drew (After.refl _)) hSw); obtain ⟨c0, c1, c2, -, -, -⟩ := row_facts hRS.board; obtain ⟨⟨y0, y1, y2⟩, x0, x1, x2⟩ := HCc.out _ hRS; go_simp; try with_reducible rfl)
              try simp only [Act.put, List.getElem_toArray, List.getElem_cons_succ, List.getElem_cons_zero, List.setIfInBounds_toArray, List.set_cons_zero, List.set_cons_succ]
              refine Script.load (i := 7) (v := ?_) rfl (by kernel_rfl) (by kernel_rfl) (fun _ _ _ h => h) (by kernel_rfl) ?_ ?_
              rotate_left
              · (intro wS hSw; have hRS := HS1.out.later (After.trans (After.drew (After.refl _)) hSw); obtain ⟨c0, c1, c2, -, -, -⟩ := row_facts hRS.board; obtain ⟨⟨y0, y1, y2⟩, x0, x1, x2⟩ := HCc.out _ hRS; go_simp; try with_reducible rfl)
              try simp only [Act.put, List.getElem_toArray, List.getElem_cons_succ, List.getElem_cons_zero, List.setIfInBounds_toArray, List.set_cons_zero, List.set_cons_succ]
              refine Script.load (i := 8) (v := ?_) rfl (by kernel_rfl) (by kernel_rfl) (fun _ _ _ h => h) (by kernel_rfl) ?_ ?_
              rotate_left
              · (intro wS hSw; have hRS := HS1.out.later (After.trans (After.drew (After.refl _)) hSw); obtain ⟨c0, c1, c2, -, -, -⟩ := row_facts hRS.board; obtain ⟨⟨y0, y1, y2⟩, x0, x1, x2⟩ := HCc.out _ hRS; go_simp; try with_reducible rfl)
              try simp only [Act.put, List.getElem_toArray, List.getElem_cons_succ, List.getElem_cons_zero, List.setIfInBounds_toArray, List.set_cons_zero, List.set_cons_succ]
              refine Script.load (i := 9) (v := ?_) rfl (by kernel_rfl) (by kernel_rfl) (fun _ _ _ h => h) (by kernel_rfl) ?_ ?_
              rotate_left
              · (intro wS hSw; have hRS := HS1.out.later (After.trans (After.drew (After.refl _)) hSw); obtain ⟨c0, c1, c2, -, -, -⟩ := row_facts hRS.board; obtain ⟨⟨y0, y1, y2⟩, x0, x1, x2⟩ := HCc.out _ hRS; go_simp; try with_reducible rfl)
              try simp only [Act.put, List.getElem_toArray, List.getElem_cons_succ, List.getElem_cons_zero, List.setIfInBounds_toArray, List.set_cons_zero, List.set_cons_succ]
              refine Script.load (i := 10) (v := ?_) rfl (by kernel_rfl) (by kernel_rfl) (fun _ _ _ h => h) (by kernel_rfl) ?_ ?_
              rotate_left
              · (intro wS hSw; have hRS := HS1.out.later (After.trans (After.drew (After.refl _)) hSw); obtain ⟨c0, c1, c2, -, -, -⟩ := row_facts hRS.board; obtain ⟨⟨y0, y1, y2⟩, x0, x1, x2⟩ := HCc.out _ hRS; go_simp; try with_reducible rfl)
              try simp only [Act.put, List.getElem_toArray, List.getElem_cons_succ, List.getElem_cons_zero, List.setIfInBounds_toArray, List.set_cons_zero, List.set_cons_succ]
              refine Script.load (i := 11) (v := ?_) rfl (by kernel_rfl) (by kernel_rfl) (fun _ _ _ h => h) (by kernel_rfl) ?_ ?_
              rotate_left
              · (intro wS hSw; have hRS := HS1.out.later (After.trans (After.drew (After.refl _)) hSw); obtain ⟨c0, c1, c2, -, -, -⟩ := row_facts hRS.board; obtain ⟨⟨y0, y1, y2⟩, x0, x1, x2⟩ := HCc.out _ hRS; go_simp; try with_reducible rfl)
              try simp only [Act.put, List.getElem_toArray, List.getElem_cons_succ, List.getElem_cons_zero, List.setIfInBounds_toArray, List.set_cons_zero, List.set_cons_succ]
              refine Script.load (i := 12) (v := ?_) rfl (by kernel_rfl) (by kernel_rfl) (fun _ _ _ h => h) (by kernel_rfl) ?_ ?_
              rotate_left
              · (intro wS hSw; have hRS := HS1.out.later (After.trans (After.drew (After.refl _)) hSw); obtain ⟨c0, c1, c2, -, -, -⟩ := row_facts hRS.board; obtain ⟨⟨y0, y1, y2⟩, x0, x1, x2⟩ := HCc.out _ hRS; go_simp; try with_reducible rfl)
              try simp only [Act.put, List.getElem_toArray, List.getElem_cons_succ, List.getElem_cons_zero, List.setIfInBounds_toArray, List.set_cons_zero, List.set_cons_succ]
              refine Script.load (i := 13) (v := ?_) rfl (by kernel_rfl) (by kernel_rfl) (fun _ _ _ h => h) (by kernel_rfl) ?_ ?_
              rotate_left
              · (intro wS hSw; have hRS := HS1.out.later (After.trans (After.drew (After.refl _)) hSw); obtain ⟨c0, c1, c2, -, -, -⟩ := row_facts hRS.board; obtain ⟨⟨y0, y1, y2⟩, x0, x1, x2⟩ := HCc.out _ hRS; go_simp; try with_reducible rfl)
              try simp only [Act.put, List.getElem_toArray, List.getElem_cons_succ, List.getElem_cons_zero, List.setIfInBounds_toArray, List.set_cons_zero, List.set_cons_succ]
              refine Script.load (i := 14) (v := ?_) rfl (by kernel_rfl) (by kernel_rfl) (fun _ _ _ h => h) (by kernel_rfl) ?_ ?_
              rotate_left
              · (intro wS hSw; have hRS := HS1.out.later (After.trans (After.drew (After.refl _)) hSw); obtain ⟨c0, c1, c2, -, -, -⟩ := row_facts hRS.board; obtain ⟨⟨y0, y1, y2⟩, x0, x1, x2⟩ := HCc.out _ hRS; go_simp; try with_reducible rfl)
              try simp only [Act.put, List.getElem_toArray, List.getElem_cons_succ, List.getElem_cons_zero, List.setIfInBounds_toArray, List.set_cons_zero, List.set_cons_succ]
              refine Script.load (i := 15) (v := ?_) rfl (by kernel_rfl) (by kernel_rfl) (fun _ _ _ h => h) (by kernel_rfl) ?_ ?_
              rotate_left
              · (intro wS hSw; have hRS := HS1.out.later (After.trans (After.drew (After.refl _)) hSw); obtain ⟨c0, c1, c2, -, -, -⟩ := row_facts hRS.board; obtain ⟨⟨y0, y1, y2⟩, x0, x1, x2⟩ := HCc.out _ hRS; go_simp; try with_reducible rfl)
              try simp only [Act.put, List.getElem_toArray, List.getElem_cons_succ, List.getElem_cons_zero, List.setIfInBounds_toArray, List.set_cons_zero, List.set_cons_succ]
              refine Script.load (i := 16) (v := ?_) rfl (by kernel_rfl) (by kernel_rfl) (fun _ _ _ h => h) (by kernel_rfl) ?_ ?_
              rotate_left
              · (intro wS hSw; have hRS := HS1.out.later (After.trans (After.drew (After.refl _)) hSw); obtain ⟨c0, c1, c2, -, -, -⟩ := row_facts hRS.board; obtain ⟨⟨y0, y1, y2⟩, x0, x1, x2⟩ := HCc.out _ hRS; go_simp; try with_reducible rfl)
              try simp only [Act.put, List.getElem_toArray, List.getElem_cons_succ, List.getElem_cons_zero, List.setIfInBounds_toArray, List.set_cons_zero, List.set_cons_succ]
              refine Script.load (i := 17) (v := ?_) rfl (by kernel_rfl) (by kernel_rfl) (fun _ _ _ h => h) (by kernel_rfl) ?_ ?_
              rotate_left
              · (intro wS hSw; have hRS := HS1.out.later (After.trans (After.drew (After.refl _)) hSw); obtain ⟨c0, c1, c2, -, -, -⟩ := row_facts hRS.board; obtain ⟨⟨y0, y1, y2⟩, x0, x1, x2⟩ := HCc.out _ hRS; go_simp; try with_reducible rfl)
              try simp only [Act.put, List.getElem_toArray, List.getElem_cons_succ, List.getElem_cons_zero, List.setIfInBounds_toArray, List.set_cons_zero, List.set_cons_succ]
              refine Script.load (i := 18) (v := ?_) rfl (by kernel_rfl) (by kernel_rfl) (fun _ _ _ h => h) (by kernel_rfl) ?_ ?_
              rotate_left
              · (intro wS hSw; have hRS := HS1.out.later (After.trans (After.drew (After.refl _)) hSw); obtain ⟨c0, c1, c2, -, -, -⟩ := row_facts hRS.board; obtain ⟨⟨y0, y1, y2⟩, x0, x1, x2⟩ := HCc.out _ hRS; go_simp; try with_reducible rfl)
              try simp only [Act.put, List.getElem_toArray, List.getElem_cons_succ, List.getElem_cons_zero, List.setIfInBounds_toArray, List.set_cons_zero, List.set_cons_succ]
              refine Script.load (i := 19) (v := ?_) rfl (by kernel_rfl) (by kernel_rfl) (fun _ _ _ h => h) (by kernel_rfl) ?_ ?_
              rotate_left
              · (intro wS hSw; have hRS := HS1.out.later (After.trans (After.drew (After.refl _)) hSw); obtain ⟨c0, c1, c2, -, -, -⟩ := row_facts hRS.board; obtain ⟨⟨y0, y1, y2⟩, x0, x1, x2⟩ := HCc.out _ hRS; go_simp; try with_reducible rfl)
              try simp only [Act.put, List.getElem_toArray, List.getElem_cons_succ, List.getElem_cons_zero, List.setIfInBounds_toArray, List.set_cons_zero, List.set_cons_succ]
              refine Script.load (i := 20) (v := ?_) rfl (by kernel_rfl) (by kernel_rfl) (fun _ _ _ h => h) (by kernel_rfl) ?_ ?_
              rotate_left
              · (intro wS hSw; have hRS := HS1.out.later (After.trans (After.drew (After.refl _)) hSw); obtain ⟨c0, c1, c2, -, -, -⟩ := row_facts hRS.board; obtain ⟨⟨y0, y1, y2⟩, x0, x1, x2⟩ := HCc.out _ hRS; go_simp; try with_reducible rfl)
              try simp only [Act.put, List.getElem_toArray, List.getElem_cons_succ, List.getElem_cons_zero, List.setIfInBounds_toArray, List.set_cons_zero, List.set_cons_succ]
              refine Script.load (i := 21) (v := ?_) rfl (by kernel_rfl) (by kernel_rfl) (fun _ _ _ h => h) (by kernel_rfl) ?_ ?_
              rotate_left
              · (intro wS hSw; have hRS := HS1.out.later (After.trans (After.drew (After.refl _)) hSw); obtain ⟨c0, c1, c2, -, -, -⟩ := row_facts hRS.board; obtain ⟨⟨y0, y1, y2⟩, x0, x1, x2⟩ := HCc.out _ hRS; go_simp; try with_reducible rfl)
              try simp only [Act.put, List.getElem_toArray, List.getElem_cons_succ, List.getElem_cons_zero, List.setIfInBounds_toArray, List.set_cons_zero, List.set_cons_succ]
              refine Script.load (i := 22) (v := ?_) rfl (by kernel_rfl) (by kernel_rfl) (fun _ _ _ h => h) (by kernel_rfl) ?_ ?_
              rotate_left
              · (intro wS hSw; have hRS := HS1.out.later (After.trans (After.drew (After.refl _)) hSw); obtain ⟨c0, c1, c2, -, -, -⟩ := row_facts hRS.board; obtain ⟨⟨y0, y1, y2⟩, x0, x1, x2⟩ := HCc.out _ hRS; go_simp; try with_reducible rfl)
              try simp only [Act.put, List.getElem_toArray, List.getElem_cons_succ, List.getElem_cons_zero, List.setIfInBounds_toArray, List.set_cons_zero, List.set_cons_succ]
              refine Script.load (i := 23) (v := ?_) rfl (by kernel_rfl) (by kernel_rfl) (fun _ _ _ h => h) (by kernel_rfl) ?_ ?_
              rotate_left
              · (intro wS hSw; have hRS := HS1.out.later (After.trans (After.drew (After.refl _)) hSw); obtain ⟨c0, c1, c2, -, -, -⟩ := row_facts hRS.board; obtain ⟨⟨y0, y1, y2⟩, x0, x1, x2⟩ := HCc.out _ hRS; go_simp; try with_reducible rfl)
              try simp only [Act.put, List.getElem_toArray, List.getElem_cons_succ, List.getElem_cons_zero, List.setIfInBounds_toArray, List.set_cons_zero, List.set_cons_succ]
              refine Script.load (i := 24) (v := ?_) rfl (by kernel_rfl) (by kernel_rfl) (fun _ _ _ h => h) (by kernel_rfl) ?_ ?_
              rotate_left
              · (intro wS hSw; have hRS := HS1.out.later (After.trans (After.drew (After.refl _)) hSw); obtain ⟨c0, c1, c2, -, -, -⟩ := row_facts hRS.board; obtain ⟨⟨y0, y1, y2⟩, x0, x1, x2⟩ := HCc.out _ hRS; go_simp; try with_reducible rfl)
              try simp only [Act.put, List.getElem_toArray, List.getElem_cons_succ, List.getElem_cons_zero, List.setIfInBounds_toArray, List.set_cons_zero, List.set_cons_succ]
              refine Script.load (i := 25) (v := ?_) rfl (by kernel_rfl) (by kernel_rfl) (fun _ _ _ h => h) (by kernel_rfl) ?_ ?_
              rotate_left
              · (intro wS hSw; have hRS := HS1.out.later (After.trans (After.drew (After.refl _)) hSw); obtain ⟨c0, c1, c2, -, -, -⟩ := row_facts hRS.board; obtain ⟨⟨y0, y1, y2⟩, x0, x1, x2⟩ := HCc.out _ hRS; go_simp; try with_reducible rfl)
              try simp only [Act.put, List.getElem_toArray, List.getElem_cons_succ, List.getElem_cons_zero, List.setIfInBounds_toArray, List.set_cons_zero, List.set_cons_succ]
              refine Script.load (i := 26) (v := ?_) rfl (by kernel_rfl) (by kernel_rfl) (fun _ _ _ h => h) (by kernel_rfl) ?_ ?_
              rotate_left
              · (intro wS hSw; have hRS := HS1.out.later (After.trans (After.drew (After.refl _)) hSw); obtain ⟨c0, c1, c2, -, -, -⟩ := row_facts hRS.board; obtain ⟨⟨y0, y1, y2⟩, x0, x1, x2⟩ := HCc.out _ hRS; go_simp; try with_reducible rfl)
              try simp only [Act.put, List.getElem_toArray, List.getElem_cons_succ, List.getElem_cons_zero, List.setIfInBounds_toArray, List.set_cons_zero, List.set_cons_succ]
              refine Script.one (i := 27) rfl (by kernel_rfl) (by kernel_rfl) ?_
              intro wO hO K hK; have hSw := hO; have hRS := HS1.out.later (After.trans (After.drew (After.refl _)) hSw); obtain ⟨c0, c1, c2, -, -, -⟩ := row_facts hRS.board; obtain ⟨⟨y0, y1, y2⟩, x0, x1, x2⟩ := HCc.out _ hRS; go_simp
              clear hSw
              go_at_call 15; refine (CF.out _).mono ?_; rintro e wv ⟨vf, rfl, hhf, hbc⟩; rw [NF.out] at hhf; obtain ⟨fa, fc, rfl⟩ := one_form hhf
              refine hK.out _ _ hbc ?_
              clear hK K
              try simp only [Act.put, List.getElem_toArray, List.getElem_cons_succ, List.getElem_cons_zero, List.setIfInBounds_toArray, List.set_cons_zero, List.set_cons_succ]
              have HS2 := Lib.hid (HS1.out.later (After.trans (After.drew (After.refl _)) (After.trans hO hbc)))
              clear c0 c1 c2 hRS hbc hO y0 y1 y2 x0 x1 x2
              refine Script.load (i := 28) (v := ?_) rfl (by kernel_rfl) (by kernel_rfl) (fun _ _ _ h => h) (by kernel_rfl) ?_ ?_
              rotate_left
              · (intro wS hSw; have hRS := HS2.out.later hSw; obtain ⟨c0, c1, c2, -, -, -⟩ := row_facts hRS.board; go_simp; try with_reducible rfl)
              try simp only [Act.put, List.getElem_toArray, List.getElem_cons_succ, List.getElem_cons_zero, List.setIfInBounds_toArray, List.set_cons_zero, List.set_cons_succ]
              refine Script.load (i := 29) (v := ?_) rfl (by kernel_rfl) (by kernel_rfl) (fun _ _ _ h => h) (by kernel_rfl) ?_ ?_
              rotate_left
              · (intro wS hSw; have hRS := HS2.out.later hSw; obtain ⟨c0, c1, c2, -, -, -⟩ := row_facts hRS.board; go_simp; try with_reducible rfl)
              try simp only [Act.put, List.getElem_toArray, List.getElem_cons_succ, List.getElem_cons_zero, List.setIfInBounds_toArray, List.set_cons_zero, List.set_cons_succ]
              refine Script.load (i := 30) (v := ?_) rfl (by kernel_rfl) (by kernel_rfl) (fun _ _ _ h => h) (by kernel_rfl) ?_ ?_
              rotate_left
              · (intro wS hSw; have hRS := HS2.out.later hSw; obtain ⟨c0, c1, c2, -, -, -⟩ := row_facts hRS.board; go_simp; try with_reducible rfl)
              try simp only [Act.put, List.getElem_toArray, List.getElem_cons_succ, List.getElem_cons_zero, List.setIfInBounds_toArray, List.set_cons_zero, List.set_cons_succ]
              refine Script.load (i := 31) (v := ?_) rfl (by kernel_rfl) (by kernel_rfl) (fun _ _ _ h => h) (by kernel_rfl) ?_ ?_
              rotate_left
              · (intro wS hSw; have hRS := HS2.out.later hSw; obtain ⟨c0, c1, c2, -, -, -⟩ := row_facts hRS.board; go_simp; try with_reducible rfl)
              try simp only [Act.put, List.getElem_toArray, List.getElem_cons_succ, List.getElem_cons_zero, List.setIfInBounds_toArray, List.set_cons_zero, List.set_cons_succ]
              refine Script.load (i := 32) (v := ?_) rfl (by kernel_rfl) (by kernel_rfl) (fun _ _ _ h => h) (by kernel_rfl) ?_ ?_
              rotate_left
              · (intro wS hSw; have hRS := HS2.out.later hSw; obtain ⟨c0, c1, c2, -, -, -⟩ := row_facts hRS.board; go_simp; try with_reducible rfl)
              try simp only [Act.put, List.getElem_toArray, List.getElem_cons_succ, List.getElem_cons_zero, List.setIfInBounds_toArray, List.set_cons_zero, List.set_cons_succ]
              refine Script.load (i := 33) (v := ?_) rfl (by kernel_rfl) (by kernel_rfl) (fun _ _ _ h => h) (by kernel_rfl) ?_ ?_
              rotate_left
              · (intro wS hSw; have hRS := HS2.out.later hSw; obtain ⟨c0, c1, c2, -, -, -⟩ := row_facts hRS.board; go_simp; try with_reducible rfl)
              try simp only [Act.put, List.getElem_toArray, List.getElem_cons_succ, List.getElem_cons_zero, List.setIfInBounds_toArray, List.set_cons_zero, List.set_cons_succ]
              refine Script.load (i := 34) (v := ?_) rfl (by kernel_rfl) (by kernel_rfl) (fun _ _ _ h => h) (by kernel_rfl) ?_ ?_
              rotate_left
              · (intro wS hSw; have hRS := HS2.out.later hSw; obtain ⟨c0, c1, c2, -, -, -⟩ := row_facts hRS.board; go_simp; try with_reducible rfl)
              try simp only [Act.put, List.getElem_toArray, List.getElem_cons_succ, List.getElem_cons_zero, List.setIfInBounds_toArray, List.set_cons_zero, List.set_cons_succ]
              refine Script.load (i := 35) (v := ?_) rfl (by kernel_rfl) (by kernel_rfl) (fun _ _ _ h => h) (by kernel_rfl) ?_ ?_
              rotate_left
              · (intro wS hSw; have hRS := HS2.out.later hSw; obtain ⟨c0, c1, c2, -, -, -⟩ := row_facts hRS.board; go_simp; try with_reducible rfl)
              try simp only [Act.put, List.getElem_toArray, List.getElem_cons_succ, List.getElem_cons_zero, List.setIfInBounds_toArray, List.set_cons_zero, List.set_cons_succ]
              refine Script.skip (i := 36) rfl (by kernel_rfl) (by kernel_rfl) (fun _ _ _ h => h) (by kernel_rfl) ?_
              try simp only [Act.put, List.getElem_toArray, List.getElem_cons_succ, List.getElem_cons_zero, List.setIfInBounds_toArray, List.set_cons_zero, List.set_cons_succ]
              refine Script.skip (i := 37) rfl (by kernel_rfl) (by kernel_rfl) (fun _ _ _ h => h) (by kernel_rfl) ?_
              try simp only [Act.put, List.getElem_toArray, List.getElem_cons_succ, List.getElem_cons_zero, List.setIfInBounds_toArray, List.set_cons_zero, List.set_cons_succ]
              refine Script.skip (i := 38) rfl (by kernel_rfl) (by kernel_rfl) (fun _ _ _ h => h) (by kernel_rfl) ?_
              try simp only [Act.put, List.getElem_toArray, List.getElem_cons_succ, List.getElem_cons_zero, List.setIfInBounds_toArray, List.set_cons_zero, List.set_cons_succ]
              refine Script.skip (i := 39) rfl (by kernel_rfl) (by kernel_rfl) (fun _ _ _ h => h) (by kernel_rfl) ?_
              try simp only [Act.put, List.getElem_toArray, List.getElem_cons_succ, List.getElem_cons_zero, List.setIfInBounds_toArray, List.set_cons_zero, List.set_cons_succ]
              refine Script.skip (i := 40) rfl (by kernel_rfl) (by kernel_rfl) (fun _ _ _ h => h) (by kernel_rfl) ?_
              try simp only [Act.put, List.getElem_toArray, List.getElem_cons_succ, List.getElem_cons_zero, List.setIfInBounds_toArray, List.set_cons_zero, List.set_cons_succ]
              refine Script.skip (i := 41) rfl (by kernel_rfl) (by kernel_rfl) (fun _ _ _ h => h) (by kernel_rfl) ?_
              try simp only [Act.put, List.getElem_toArray, List.getElem_cons_succ, List.getElem_cons_zero, List.setIfInBounds_toArray, List.set_cons_zero, List.set_cons_succ]
              refine Script.skip (i := 42) rfl (by kernel_rfl) (by kernel_rfl) (fun _ _ _ h => h) (by kernel_rfl) ?_
              try simp only [Act.put, List.getElem_toArray, List.getElem_cons_succ, List.getElem_cons_zero, List.setIfInBounds_toArray, List.set_cons_zero, List.set_cons_succ]
              refine Script.load (i := 43) (v := ?_) rfl (by kernel_rfl) (by kernel_rfl) (fun _ _ _ h => h) (by kernel_rfl) ?_ ?_
              rotate_left
              · (intro wS hSw; have hRS := HS2.out.later hSw; obtain ⟨c0, c1, c2, -, -, -⟩ := row_facts hRS.board; go_simp; try with_reducible rfl)
              try simp only [Act.put, List.getElem_toArray, List.getElem_cons_succ, List.getElem_cons_zero, List.setIfInBounds_toArray, List.set_cons_zero, List.set_cons_succ]
              refine Script.load (i := 44) (v := ?_) rfl (by kernel_rfl) (by kernel_rfl) (fun _ _ _ h => h) (by kernel_rfl) ?_ ?_
              rotate_left
              · (intro wS hSw; have hRS := HS2.out.later hSw; obtain ⟨c0, c1, c2, -, -, -⟩ := row_facts hRS.board; go_simp; try with_reducible rfl)
              try simp only [Act.put, List.getElem_toArray, List.getElem_cons_succ, List.getElem_cons_zero, List.setIfInBounds_toArray, List.set_cons_zero, List.set_cons_succ]
              refine Script.load (i := 45) (v := ?_) rfl (by kernel_rfl) (by kernel_rfl) (fun _ _ _ h => h) (by kernel_rfl) ?_ ?_
              rotate_left
              · (intro wS hSw; have hRS := HS2.out.later hSw; obtain ⟨c0, c1, c2, -, -, -⟩ := row_facts hRS.board; go_simp; try with_reducible rfl)
              try simp only [Act.put, List.getElem_toArray, List.getElem_cons_succ, List.getElem_cons_zero, List.setIfInBounds_toArray, List.set_cons_zero, List.set_cons_succ]
              refine Script.done (by kernel_rfl) ?_
              intro wD hD hG
              have HS3 := Lib.hid (HS2.out.later hD)
              clear hD hG
              go_wp2_with fail
              go_ret
              exact ⟨rfl, HS3.out.below⟩
          · as_aux_lemma =>
              have hnf : decide (0 < nf) = true := hfo
              have hcw : IntKind.i64.wrap (cp - 1) = (ns : Int) := by rw [hss rfl]; exact IntWalk.i64_in _ (by have := HCn.out; omega)
              clear hfo hss
              go_wp2_with fail
              refine wp_region_script (by kernel_rfl) (by kernel_rfl) ?_
              refine Script.load (i := 0) (v := ?_) rfl (by kernel_rfl) (by kernel_rfl) (fun _ _ _ h => h) (by kernel_rfl) ?_ ?_
              rotate_left
              · (intro wS hSw; have hRS := HS1.out.later (After.trans (After.drew (After.refl _)) hSw); obtain ⟨c0, c1, c2, -, -, -⟩ := row_facts hRS.board; obtain ⟨⟨y0, y1, y2⟩, x0, x1, x2⟩ := HCc.out _ hRS; go_simp; try with_reducible rfl)
              try simp only [Act.put, List.getElem_toArray, List.getElem_cons_succ, List.getElem_cons_zero, List.setIfInBounds_toArray, List.set_cons_zero, List.set_cons_succ]
              refine Script.load (i := 1) (v := ?_) rfl (by kernel_rfl) (by kernel_rfl) (fun _ _ _ h => h) (by kernel_rfl) ?_ ?_
              rotate_left
              · (intro wS hSw; have hRS := HS1.out.later (After.trans (After.drew (After.refl _)) hSw); obtain ⟨c0, c1, c2, -, -, -⟩ := row_facts hRS.board; obtain ⟨⟨y0, y1, y2⟩, x0, x1, x2⟩ := HCc.out _ hRS; go_simp; try with_reducible rfl)
              try simp only [Act.put, List.getElem_toArray, List.getElem_cons_succ, List.getElem_cons_zero, List.setIfInBounds_toArray, List.set_cons_zero, List.set_cons_succ]
              refine Script.load (i := 2) (v := ?_) rfl (by kernel_rfl) (by kernel_rfl) (fun _ _ _ h => h) (by kernel_rfl) ?_ ?_
              rotate_left
              · (intro wS hSw; have hRS := HS1.out.later (After.trans (After.drew (After.refl _)) hSw); obtain ⟨c0, c1, c2, -, -, -⟩ := row_facts hRS.board; obtain ⟨⟨y0, y1, y2⟩, x0, x1, x2⟩ := HCc.out _ hRS; go_simp; try with_reducible rfl)
              try simp only [Act.put, List.getElem_toArray, List.getElem_cons_succ, List.getElem_cons_zero, List.setIfInBounds_toArray, List.set_cons_zero, List.set_cons_succ]
              refine Script.load (i := 3) (v := ?_) rfl (by kernel_rfl) (by kernel_rfl) (fun _ _ _ h => h) (by kernel_rfl) ?_ ?_
              rotate_left
              · (intro wS hSw; have hRS := HS1.out.later (After.trans (After.drew (After.refl _)) hSw); obtain ⟨c0, c1, c2, -, -, -⟩ := row_facts hRS.board; obtain ⟨⟨y0, y1, y2⟩, x0, x1, x2⟩ := HCc.out _ hRS; go_simp; try with_reducible rfl)
              try simp only [Act.put, List.getElem_toArray, List.getElem_cons_succ, List.getElem_cons_zero, List.setIfInBounds_toArray, List.set_cons_zero, List.set_cons_succ]
              refine Script.load (i := 4) (v := ?_) rfl (by kernel_rfl) (by kernel_rfl) (fun _ _ _ h => h) (by kernel_rfl) ?_ ?_
              rotate_left
              · (intro wS hSw; have hRS := HS1.out.later (After.trans (After.drew (After.refl _)) hSw); obtain ⟨c0, c1, c2, -, -, -⟩ := row_facts hRS.board; obtain ⟨⟨y0, y1, y2⟩, x0, x1, x2⟩ := HCc.out _ hRS; go_simp; try with_reducible rfl)
              try simp only [Act.put, List.getElem_toArray, List.getElem_cons_succ, List.getElem_cons_zero, List.setIfInBounds_toArray, List.set_cons_zero, List.set_cons_succ]
              refine Script.load (i := 5) (v := ?_) rfl (by kernel_rfl) (by kernel_rfl) (fun _ _ _ h => h) (by kernel_rfl) ?_ ?_
              rotate_left
              · (intro wS hSw; have hRS := HS1.out.later (After.trans (After.drew (After.refl _)) hSw); obtain ⟨c0, c1, c2, -, -, -⟩ := row_facts hRS.board; obtain ⟨⟨y0, y1, y2⟩, x0, x1, x2⟩ := HCc.out _ hRS; go_simp; try with_reducible rfl)
              try simp only [Act.put, List.getElem_toArray, List.getElem_cons_succ, List.getElem_cons_zero, List.setIfInBounds_toArray, List.set_cons_zero, List.set_cons_succ]
              refine Script.load (i := 6) (v := ?_) rfl (by kernel_rfl) (by kernel_rfl) (fun _ _ _ h => h) (by kernel_rfl) ?_ ?_
              rotate_left
              · (intro wS hSw; have hRS := HS1.out.later (After.trans (After.drew (After.refl _)) hSw); obtain ⟨c0, c1, c2, -, -, -⟩ := row_facts hRS.board; obtain ⟨⟨y0, y1, y2⟩, x0, x1, x2⟩ := HCc.out _ hRS; go_simp; try with_reducible rfl)
              try simp only [Act.put, List.getElem_toArray, List.getElem_cons_succ, List.getElem_cons_zero, List.setIfInBounds_toArray, List.set_cons_zero, List.set_cons_succ]
              refine Script.load (i := 7) (v := ?_) rfl (by kernel_rfl) (by kernel_rfl) (fun _ _ _ h => h) (by kernel_rfl) ?_ ?_
              rotate_left
              · (intro wS hSw; have hRS := HS1.out.later (After.trans (After.drew (After.refl _)) hSw); obtain ⟨c0, c1, c2, -, -, -⟩ := row_facts hRS.board; obtain ⟨⟨y0, y1, y2⟩, x0, x1, x2⟩ := HCc.out _ hRS; go_simp; try with_reducible rfl)
              try simp only [Act.put, List.getElem_toArray, List.getElem_cons_succ, List.getElem_cons_zero, List.setIfInBounds_toArray, List.set_cons_zero, List.set_cons_succ]
              refine Script.load (i := 8) (v := ?_) rfl (by kernel_rfl) (by kernel_rfl) (fun _ _ _ h => h) (by kernel_rfl) ?_ ?_
              rotate_left
              · (intro wS hSw; have hRS := HS1.out.later (After.trans (After.drew (After.refl _)) hSw); obtain ⟨c0, c1, c2, -, -, -⟩ := row_facts hRS.board; obtain ⟨⟨y0, y1, y2⟩, x0, x1, x2⟩ := HCc.out _ hRS; go_simp; try with_reducible rfl)
              try simp only [Act.put, List.getElem_toArray, List.getElem_cons_succ, List.getElem_cons_zero, List.setIfInBounds_toArray, List.set_cons_zero, List.set_cons_succ]
              refine Script.load (i := 9) (v := ?_) rfl (by kernel_rfl) (by kernel_rfl) (fun _ _ _ h => h) (by kernel_rfl) ?_ ?_
              rotate_left
              · (intro wS hSw; have hRS := HS1.out.later (After.trans (After.drew (After.refl _)) hSw); obtain ⟨c0, c1, c2, -, -, -⟩ := row_facts hRS.board; obtain ⟨⟨y0, y1, y2⟩, x0, x1, x2⟩ := HCc.out _ hRS; go_simp; try with_reducible rfl)
              try simp only [Act.put, List.getElem_toArray, List.getElem_cons_succ, List.getElem_cons_zero, List.setIfInBounds_toArray, List.set_cons_zero, List.set_cons_succ]
              refine Script.load (i := 10) (v := ?_) rfl (by kernel_rfl) (by kernel_rfl) (fun _ _ _ h => h) (by kernel_rfl) ?_ ?_
              rotate_left
              · (intro wS hSw; have hRS := HS1.out.later (After.trans (After.drew (After.refl _)) hSw); obtain ⟨c0, c1, c2, -, -, -⟩ := row_facts hRS.board; obtain ⟨⟨y0, y1, y2⟩, x0, x1, x2⟩ := HCc.out _ hRS; go_simp; try with_reducible rfl)
              try simp only [Act.put, List.getElem_toArray, List.getElem_cons_succ, List.getElem_cons_zero, List.setIfInBounds_toArray, List.set_cons_zero, List.set_cons_succ]
              refine Script.load (i := 11) (v := ?_) rfl (by kernel_rfl) (by kernel_rfl) (fun _ _ _ h => h) (by kernel_rfl) ?_ ?_
              rotate_left
              · (intro wS hSw; have hRS := HS1.out.later (After.trans (After.drew (After.refl _)) hSw); obtain ⟨c0, c1, c2, -, -, -⟩ := row_facts hRS.board; obtain ⟨⟨y0, y1, y2⟩, x0, x1, x2⟩ := HCc.out _ hRS; go_simp; try with_reducible rfl)
              try simp only [Act.put, List.getElem_toArray, List.getElem_cons_succ, List.getElem_cons_zero, List.setIfInBounds_toArray, List.set_cons_zero, List.set_cons_succ]
              refine Script.load (i := 12) (v := ?_) rfl (by kernel_rfl) (by kernel_rfl) (fun _ _ _ h => h) (by kernel_rfl) ?_ ?_
              rotate_left
              · (intro wS hSw; have hRS := HS1.out.later (After.trans (After.drew (After.refl _)) hSw); obtain ⟨c0, c1, c2, -, -, -⟩ := row_facts hRS.board; obtain ⟨⟨y0, y1, y2⟩, x0, x1, x2⟩ := HCc.out _ hRS; go_simp; try with_reducible rfl)
              try simp only [Act.put, List.getElem_toArray, List.getElem_cons_succ, List.getElem_cons_zero, List.setIfInBounds_toArray, List.set_cons_zero, List.set_cons_succ]
              refine Script.load (i := 13) (v := ?_) rfl (by kernel_rfl) (by kernel_rfl) (fun _ _ _ h => h) (by kernel_rfl) ?_ ?_
              rotate_left
              · (intro wS hSw; have hRS := HS1.out.later (After.trans (After.drew (After.refl _)) hSw); obtain ⟨c0, c1, c2, -, -, -⟩ := row_facts hRS.board; obtain ⟨⟨y0, y1, y2⟩, x0, x1, x2⟩ := HCc.out _ hRS; go_simp; try with_reducible rfl)
              try simp only [Act.put, List.getElem_toArray, List.getElem_cons_succ, List.getElem_cons_zero, List.setIfInBounds_toArray, List.set_cons_zero, List.set_cons_succ]
              refine Script.load (i := 14) (v := ?_) rfl (by kernel_rfl) (by kernel_rfl) (fun _ _ _ h => h) (by kernel_rfl) ?_ ?_
              rotate_left
              · (intro wS hSw; have hRS := HS1.out.later (After.trans (After.drew (After.refl _)) hSw); obtain ⟨c0, c1, c2, -, -, -⟩ := row_facts hRS.board; obtain ⟨⟨y0, y1, y2⟩, x0, x1, x2⟩ := HCc.out _ hRS; go_simp; try with_reducible rfl)
              try simp only [Act.put, List.getElem_toArray, List.getElem_cons_succ, List.getElem_cons_zero, List.setIfInBounds_toArray, List.set_cons_zero, List.set_cons_succ]
              refine Script.load (i := 15) (v := ?_) rfl (by kernel_rfl) (by kernel_rfl) (fun _ _ _ h => h) (by kernel_rfl) ?_ ?_
              rotate_left
              · (intro wS hSw; have hRS := HS1.out.later (After.trans (After.drew (After.refl _)) hSw); obtain ⟨c0, c1, c2, -, -, -⟩ := row_facts hRS.board; obtain ⟨⟨y0, y1, y2⟩, x0, x1, x2⟩ := HCc.out _ hRS; go_simp; try with_reducible rfl)
              try simp only [Act.put, List.getElem_toArray, List.getElem_cons_succ, List.getElem_cons_zero, List.setIfInBounds_toArray, List.set_cons_zero, List.set_cons_succ]
              refine Script.load (i := 16) (v := ?_) rfl (by kernel_rfl) (by kernel_rfl) (fun _ _ _ h => h) (by kernel_rfl) ?_ ?_
              rotate_left
              · (intro wS hSw; have hRS := HS1.out.later (After.trans (After.drew (After.refl _)) hSw); obtain ⟨c0, c1, c2, -, -, -⟩ := row_facts hRS.board; obtain ⟨⟨y0, y1, y2⟩, x0, x1, x2⟩ := HCc.out _ hRS; go_simp; try with_reducible rfl)
              try simp only [Act.put, List.getElem_toArray, List.getElem_cons_succ, List.getElem_cons_zero, List.setIfInBounds_toArray, List.set_cons_zero, List.set_cons_succ]
              refine Script.load (i := 17) (v := ?_) rfl (by kernel_rfl) (by kernel_rfl) (fun _ _ _ h => h) (by kernel_rfl) ?_ ?_
              rotate_left
              · (intro wS hSw; have hRS := HS1.out.later (After.trans (After.drew (After.refl _)) hSw); obtain ⟨c0, c1, c2, -, -, -⟩ := row_facts hRS.board; obtain ⟨⟨y0, y1, y2⟩, x0, x1, x2⟩ := HCc.out _ hRS; go_simp; try with_reducible rfl)
              try simp only [Act.put, List.getElem_toArray, List.getElem_cons_succ, List.getElem_cons_zero, List.setIfInBounds_toArray, List.set_cons_zero, List.set_cons_succ]
              refine Script.load (i := 18) (v := ?_) rfl (by kernel_rfl) (by kernel_rfl) (fun _ _ _ h => h) (by kernel_rfl) ?_ ?_
              rotate_left
              · (intro wS hSw; have hRS := HS1.out.later (After.trans (After.drew (After.refl _)) hSw); obtain ⟨c0, c1, c2, -, -, -⟩ := row_facts hRS.board; obtain ⟨⟨y0, y1, y2⟩, x0, x1, x2⟩ := HCc.out _ hRS; go_simp; try with_reducible rfl)
              try simp only [Act.put, List.getElem_toArray, List.getElem_cons_succ, List.getElem_cons_zero, List.setIfInBounds_toArray, List.set_cons_zero, List.set_cons_succ]
              refine Script.load (i := 19) (v := ?_) rfl (by kernel_rfl) (by kernel_rfl) (fun _ _ _ h => h) (by kernel_rfl) ?_ ?_
              rotate_left
              · (intro wS hSw; have hRS := HS1.out.later (After.trans (After.drew (After.refl _)) hSw); obtain ⟨c0, c1, c2, -, -, -⟩ := row_facts hRS.board; obtain ⟨⟨y0, y1, y2⟩, x0, x1, x2⟩ := HCc.out _ hRS; go_simp; try with_reducible rfl)
              try simp only [Act.put, List.getElem_toArray, List.getElem_cons_succ, List.getElem_cons_zero, List.setIfInBounds_toArray, List.set_cons_zero, List.set_cons_succ]
              refine Script.load (i := 20) (v := ?_) rfl (by kernel_rfl) (by kernel_rfl) (fun _ _ _ h => h) (by kernel_rfl) ?_ ?_
              rotate_left
              · (intro wS hSw; have hRS := HS1.out.later (After.trans (After.drew (After.refl _)) hSw); obtain ⟨c0, c1, c2, -, -, -⟩ := row_facts hRS.board; obtain ⟨⟨y0, y1, y2⟩, x0, x1, x2⟩ := HCc.out _ hRS; go_simp; try with_reducible rfl)
              try simp only [Act.put, List.getElem_toArray, List.getElem_cons_succ, List.getElem_cons_zero, List.setIfInBounds_toArray, List.set_cons_zero, List.set_cons_succ]
              refine Script.load (i := 21) (v := ?_) rfl (by kernel_rfl) (by kernel_rfl) (fun _ _ _ h => h) (by kernel_rfl) ?_ ?_
              rotate_left
              · (intro wS hSw; have hRS := HS1.out.later (After.trans (After.drew (After.refl _)) hSw); obtain ⟨c0, c1, c2, -, -, -⟩ := row_facts hRS.board; obtain ⟨⟨y0, y1, y2⟩, x0, x1, x2⟩ := HCc.out _ hRS; go_simp; try with_reducible rfl)
              try simp only [Act.put, List.getElem_toArray, List.getElem_cons_succ, List.getElem_cons_zero, List.setIfInBounds_toArray, List.set_cons_zero, List.set_cons_succ]
              refine Script.load (i := 22) (v := ?_) rfl (by kernel_rfl) (by kernel_rfl) (fun _ _ _ h => h) (by kernel_rfl) ?_ ?_
              rotate_left
              · (intro wS hSw; have hRS := HS1.out.later (After.trans (After.drew (After.refl _)) hSw); obtain ⟨c0, c1, c2, -, -, -⟩ := row_facts hRS.board; obtain ⟨⟨y0, y1, y2⟩, x0, x1, x2⟩ := HCc.out _ hRS; go_simp; try with_reducible rfl)
              try simp only [Act.put, List.getElem_toArray, List.getElem_cons_succ, List.getElem_cons_zero, List.setIfInBounds_toArray, List.set_cons_zero, List.set_cons_succ]
              refine Script.load (i := 23) (v := ?_) rfl (by kernel_rfl) (by kernel_rfl) (fun _ _ _ h => h) (by kernel_rfl) ?_ ?_
              rotate_left
              · (intro wS hSw; have hRS := HS1.out.later (After.trans (After.drew (After.refl _)) hSw); obtain ⟨c0, c1, c2, -, -, -⟩ := row_facts hRS.board; obtain ⟨⟨y0, y1, y2⟩, x0, x1, x2⟩ := HCc.out _ hRS; go_simp; try with_reducible rfl)
              try simp only [Act.put, List.getElem_toArray, List.getElem_cons_succ, List.getElem_cons_zero, List.setIfInBounds_toArray, List.set_cons_zero, List.set_cons_succ]
              refine Script.load (i := 24) (v := ?_) rfl (by kernel_rfl) (by kernel_rfl) (fun _ _ _ h => h) (by kernel_rfl) ?_ ?_
              rotate_left
              · (intro wS hSw; have hRS := HS1.out.later (After.trans (After.drew (After.refl _)) hSw); obtain ⟨c0, c1, c2, -, -, -⟩ := row_facts hRS.board; obtain ⟨⟨y0, y1, y2⟩, x0, x1, x2⟩ := HCc.out _ hRS; go_simp; try with_reducible rfl)
              try simp only [Act.put, List.getElem_toArray, List.getElem_cons_succ, List.getElem_cons_zero, List.setIfInBounds_toArray, List.set_cons_zero, List.set_cons_succ]
              refine Script.load (i := 25) (v := ?_) rfl (by kernel_rfl) (by kernel_rfl) (fun _ _ _ h => h) (by kernel_rfl) ?_ ?_
              rotate_left
              · (intro wS hSw; have hRS := HS1.out.later (After.trans (After.drew (After.refl _)) hSw); obtain ⟨c0, c1, c2, -, -, -⟩ := row_facts hRS.board; obtain ⟨⟨y0, y1, y2⟩, x0, x1, x2⟩ := HCc.out _ hRS; go_simp; try with_reducible rfl)
              try simp only [Act.put, List.getElem_toArray, List.getElem_cons_succ, List.getElem_cons_zero, List.setIfInBounds_toArray, List.set_cons_zero, List.set_cons_succ]
              refine Script.load (i := 26) (v := ?_) rfl (by kernel_rfl) (by kernel_rfl) (fun _ _ _ h => h) (by kernel_rfl) ?_ ?_
              rotate_left
              · (intro wS hSw; have hRS := HS1.out.later (After.trans (After.drew (After.refl _)) hSw); obtain ⟨c0, c1, c2, -, -, -⟩ := row_facts hRS.board; obtain ⟨⟨y0, y1, y2⟩, x0, x1, x2⟩ := HCc.out _ hRS; go_simp; try with_reducible rfl)
              try simp only [Act.put, List.getElem_toArray, List.getElem_cons_succ, List.getElem_cons_zero, List.setIfInBounds_toArray, List.set_cons_zero, List.set_cons_succ]
              refine Script.one (i := 27) rfl (by kernel_rfl) (by kernel_rfl) ?_
              intro wO hO K hK; have hSw := hO; have hRS := HS1.out.later (After.trans (After.drew (After.refl _)) hSw); obtain ⟨c0, c1, c2, -, -, -⟩ := row_facts hRS.board; obtain ⟨⟨y0, y1, y2⟩, x0, x1, x2⟩ := HCc.out _ hRS; go_simp
              clear hSw
              go_at_call 15; refine (CF.out _).mono ?_; rintro e wv ⟨vf, rfl, hhf, hbc⟩; rw [NF.out] at hhf; obtain ⟨fa, fc, rfl⟩ := one_form hhf
              refine hK.out _ _ hbc ?_
              clear hK K
              try simp only [Act.put, List.getElem_toArray, List.getElem_cons_succ, List.getElem_cons_zero, List.setIfInBounds_toArray, List.set_cons_zero, List.set_cons_succ]
              have HS2 := Lib.hid (HS1.out.later (After.trans (After.drew (After.refl _)) (After.trans hO hbc)))
              clear c0 c1 c2 hRS hbc hO y0 y1 y2 x0 x1 x2
              refine Script.load (i := 28) (v := ?_) rfl (by kernel_rfl) (by kernel_rfl) (fun _ _ _ h => h) (by kernel_rfl) ?_ ?_
              rotate_left
              · (intro wS hSw; have hRS := HS2.out.later hSw; obtain ⟨c0, c1, c2, -, -, -⟩ := row_facts hRS.board; go_simp; try with_reducible rfl)
              try simp only [Act.put, List.getElem_toArray, List.getElem_cons_succ, List.getElem_cons_zero, List.setIfInBounds_toArray, List.set_cons_zero, List.set_cons_succ]
              refine Script.load (i := 29) (v := ?_) rfl (by kernel_rfl) (by kernel_rfl) (fun _ _ _ h => h) (by kernel_rfl) ?_ ?_
              rotate_left
              · (intro wS hSw; have hRS := HS2.out.later hSw; obtain ⟨c0, c1, c2, -, -, -⟩ := row_facts hRS.board; go_simp; try with_reducible rfl)
              try simp only [Act.put, List.getElem_toArray, List.getElem_cons_succ, List.getElem_cons_zero, List.setIfInBounds_toArray, List.set_cons_zero, List.set_cons_succ]
              refine Script.load (i := 30) (v := ?_) rfl (by kernel_rfl) (by kernel_rfl) (fun _ _ _ h => h) (by kernel_rfl) ?_ ?_
              rotate_left
              · (intro wS hSw; have hRS := HS2.out.later hSw; obtain ⟨c0, c1, c2, -, -, -⟩ := row_facts hRS.board; go_simp; try with_reducible rfl)
              try simp only [Act.put, List.getElem_toArray, List.getElem_cons_succ, List.getElem_cons_zero, List.setIfInBounds_toArray, List.set_cons_zero, List.set_cons_succ]
              refine Script.load (i := 31) (v := ?_) rfl (by kernel_rfl) (by kernel_rfl) (fun _ _ _ h => h) (by kernel_rfl) ?_ ?_
              rotate_left
              · (intro wS hSw; have hRS := HS2.out.later hSw; obtain ⟨c0, c1, c2, -, -, -⟩ := row_facts hRS.board; go_simp; try with_reducible rfl)
              try simp only [Act.put, List.getElem_toArray, List.getElem_cons_succ, List.getElem_cons_zero, List.setIfInBounds_toArray, List.set_cons_zero, List.set_cons_succ]
              refine Script.load (i := 32) (v := ?_) rfl (by kernel_rfl) (by kernel_rfl) (fun _ _ _ h => h) (by kernel_rfl) ?_ ?_
              rotate_left
              · (intro wS hSw; have hRS := HS2.out.later hSw; obtain ⟨c0, c1, c2, -, -, -⟩ := row_facts hRS.board; go_simp; try with_reducible rfl)
              try simp only [Act.put, List.getElem_toArray, List.getElem_cons_succ, List.getElem_cons_zero, List.setIfInBounds_toArray, List.set_cons_zero, List.set_cons_succ]
              refine Script.load (i := 33) (v := ?_) rfl (by kernel_rfl) (by kernel_rfl) (fun _ _ _ h => h) (by kernel_rfl) ?_ ?_
              rotate_left
              · (intro wS hSw; have hRS := HS2.out.later hSw; obtain ⟨c0, c1, c2, -, -, -⟩ := row_facts hRS.board; go_simp; try with_reducible rfl)
              try simp only [Act.put, List.getElem_toArray, List.getElem_cons_succ, List.getElem_cons_zero, List.setIfInBounds_toArray, List.set_cons_zero, List.set_cons_succ]
              refine Script.load (i := 34) (v := ?_) rfl (by kernel_rfl) (by kernel_rfl) (fun _ _ _ h => h) (by kernel_rfl) ?_ ?_
              rotate_left
              · (intro wS hSw; have hRS := HS2.out.later hSw; obtain ⟨c0, c1, c2, -, -, -⟩ := row_facts hRS.board; go_simp; try with_reducible rfl)
              try simp only [Act.put, List.getElem_toArray, List.getElem_cons_succ, List.getElem_cons_zero, List.setIfInBounds_toArray, List.set_cons_zero, List.set_cons_succ]
              refine Script.load (i := 35) (v := ?_) rfl (by kernel_rfl) (by kernel_rfl) (fun _ _ _ h => h) (by kernel_rfl) ?_ ?_
              rotate_left
              · (intro wS hSw; have hRS := HS2.out.later hSw; obtain ⟨c0, c1, c2, -, -, -⟩ := row_facts hRS.board; go_simp; try with_reducible rfl)
              try simp only [Act.put, List.getElem_toArray, List.getElem_cons_succ, List.getElem_cons_zero, List.setIfInBounds_toArray, List.set_cons_zero, List.set_cons_succ]
              refine Script.load (i := 36) (v := ?_) rfl (by kernel_rfl) (by kernel_rfl) (fun _ _ _ h => h) (by kernel_rfl) ?_ ?_
              rotate_left
              · (intro wS hSw; have hRS := HS2.out.later hSw; obtain ⟨c0, c1, c2, -, -, -⟩ := row_facts hRS.board; go_simp; try with_reducible rfl)
              try simp only [Act.put, List.getElem_toArray, List.getElem_cons_succ, List.getElem_cons_zero, List.setIfInBounds_toArray, List.set_cons_zero, List.set_cons_succ]
              refine Script.load (i := 37) (v := ?_) rfl (by kernel_rfl) (by kernel_rfl) (fun _ _ _ h => h) (by kernel_rfl) ?_ ?_
              rotate_left
              · (intro wS hSw; have hRS := HS2.out.later hSw; obtain ⟨c0, c1, c2, -, -, -⟩ := row_facts hRS.board; go_simp; try with_reducible rfl)
              try simp only [Act.put, List.getElem_toArray, List.getElem_cons_succ, List.getElem_cons_zero, List.setIfInBounds_toArray, List.set_cons_zero, List.set_cons_succ]
              refine Script.load (i := 38) (v := ?_) rfl (by kernel_rfl) (by kernel_rfl) (fun _ _ _ h => h) (by kernel_rfl) ?_ ?_
              rotate_left
              · (intro wS hSw; have hRS := HS2.out.later hSw; obtain ⟨c0, c1, c2, -, -, -⟩ := row_facts hRS.board; go_simp; try with_reducible rfl)
              try simp only [Act.put, List.getElem_toArray, List.getElem_cons_succ, List.getElem_cons_zero, List.setIfInBounds_toArray, List.set_cons_zero, List.set_cons_succ]
              refine Script.load (i := 39) (v := ?_) rfl (by kernel_rfl) (by kernel_rfl) (fun _ _ _ h => h) (by kernel_rfl) ?_ ?_
              rotate_left
              · (intro wS hSw; have hRS := HS2.out.later hSw; obtain ⟨c0, c1, c2, -, -, -⟩ := row_facts hRS.board; go_simp; try with_reducible rfl)
              try simp only [Act.put, List.getElem_toArray, List.getElem_cons_succ, List.getElem_cons_zero, List.setIfInBounds_toArray, List.set_cons_zero, List.set_cons_succ]
              refine Script.call (i := 40) (v := ?_) rfl (by kernel_rfl) (by kernel_rfl) (fun _ _ _ h => h) (by kernel_rfl) ?_ ?_
              rotate_left
              · (intro wS hSw K hK; have hRS := HS2.out.later hSw; obtain ⟨c0, c1, c2, -, -, -⟩ := row_facts hRS.board; go_simp; go_at_call 16; refine (CPg.out _).mono ?_; rintro e wv ⟨rfl, hbc⟩; exact hK.out _ hbc)
              try simp only [Act.put, List.getElem_toArray, List.getElem_cons_succ, List.getElem_cons_zero, List.setIfInBounds_toArray, List.set_cons_zero, List.set_cons_succ]
              refine Script.load (i := 41) (v := ?_) rfl (by kernel_rfl) (by kernel_rfl) (fun _ _ _ h => h) (by kernel_rfl) ?_ ?_
              rotate_left
              · (intro wS hSw; have hRS := HS2.out.later hSw; obtain ⟨c0, c1, c2, -, -, -⟩ := row_facts hRS.board; go_simp; try with_reducible rfl)
              try simp only [Act.put, List.getElem_toArray, List.getElem_cons_succ, List.getElem_cons_zero, List.setIfInBounds_toArray, List.set_cons_zero, List.set_cons_succ]
              refine Script.load (i := 42) (v := ?_) rfl (by kernel_rfl) (by kernel_rfl) (fun _ _ _ h => h) (by kernel_rfl) ?_ ?_
              rotate_left
              · (intro wS hSw; have hRS := HS2.out.later hSw; obtain ⟨c0, c1, c2, -, -, -⟩ := row_facts hRS.board; go_simp; try with_reducible rfl)
              try simp only [Act.put, List.getElem_toArray, List.getElem_cons_succ, List.getElem_cons_zero, List.setIfInBounds_toArray, List.set_cons_zero, List.set_cons_succ]
              refine Script.load (i := 43) (v := ?_) rfl (by kernel_rfl) (by kernel_rfl) (fun _ _ _ h => h) (by kernel_rfl) ?_ ?_
              rotate_left
              · (intro wS hSw; have hRS := HS2.out.later hSw; obtain ⟨c0, c1, c2, -, -, -⟩ := row_facts hRS.board; go_simp; try with_reducible rfl)
              try simp only [Act.put, List.getElem_toArray, List.getElem_cons_succ, List.getElem_cons_zero, List.setIfInBounds_toArray, List.set_cons_zero, List.set_cons_succ]
              refine Script.load (i := 44) (v := ?_) rfl (by kernel_rfl) (by kernel_rfl) (fun _ _ _ h => h) (by kernel_rfl) ?_ ?_
              rotate_left
              · (intro wS hSw; have hRS := HS2.out.later hSw; obtain ⟨c0, c1, c2, -, -, -⟩ := row_facts hRS.board; go_simp; try with_reducible rfl)
              try simp only [Act.put, List.getElem_toArray, List.getElem_cons_succ, List.getElem_cons_zero, List.setIfInBounds_toArray, List.set_cons_zero, List.set_cons_succ]
              refine Script.load (i := 45) (v := ?_) rfl (by kernel_rfl) (by kernel_rfl) (fun _ _ _ h => h) (by kernel_rfl) ?_ ?_
              rotate_left
              · (intro wS hSw; have hRS := HS2.out.later hSw; obtain ⟨c0, c1, c2, -, -, -⟩ := row_facts hRS.board; go_simp; try with_reducible rfl)
              try simp only [Act.put, List.getElem_toArray, List.getElem_cons_succ, List.getElem_cons_zero, List.setIfInBounds_toArray, List.set_cons_zero, List.set_cons_succ]
              refine Script.done (by kernel_rfl) ?_
              intro wD hD hG
              have HS3 := Lib.hid (HS2.out.later hD)
              clear hD hG
              go_wp2_with fail
              go_ret
              exact ⟨rfl, HS3.out.below⟩
set_option maxRecDepth 100000 in
theorem walk_far {a0 : Option Addr} {len cap : Nat} (w : World) (h : 1048576 < len) :
    Calls Tryz.prog 3 #[.slice a0 len cap] w fun e w' => e = .returned (.bool true) ∧ Below w.heap.size w w' := by
  go_enter Tryz.func3, Tryz.ntmps3
  go_wp2_with fail
  refine (big_yes _ h).mono ?_
  rintro e w' ⟨rfl, rfl⟩
  go_wp2_with fail
  go_ret
  exact ⟨rfl, Below.refl _ _⟩
theorem walk (a0 : Option Addr) (len0 cap0 : Nat) (z0 : List Int) (w : World) (w0 : IsRow .u8 w a0 len0 cap0 z0) :
    Calls Tryz.prog 3 #[.slice a0 len0 cap0] w fun e w' => e = .returned (.bool true) ∧ Below w.heap.size w w' := by
  by_cases h2 : len0 ≤ 1048576
  · exact walk_in w (code_of w0 h2)
  · exact walk_far w (by omega)
set_option maxRecDepth 100000 in
theorem lifted (os : Os) (started : os.Started) (H : Type) (enc : TypeId × Value → H) :
    ReturnsInHanded {} Tryz.checked os 3 .any (Rows.fnWaysSpec.pre6 enc Tryz.prog Tryz.f3 Rows.fnWaysRow.domain false) (Rows.fnWaysSpec.post enc Tryz.prog Tryz.f3 false true false false) := by
  refine returnsInHanded_of_change (C := Tryz.checked) own started (by kernel_rfl) Tryz.func3
    (ChangeSpec.witness6 (enc := enc) (C := Tryz.checked) false ⟨#[], #[.slice none 0 0], []⟩ 8 (by kernel_rfl) (by kernel_rfl) (by kernel_rfl) (by kernel_rfl)) ?_
  intro W base args ds gs before hval0 hW hcnd _
  have hval : ∀ (j : Nat) t v, Tryz.f3.params[j]? = some t → args[j]? = some v → Value.okWide Tryz.prog W .any base t v := hval0
  have hW' := hW
  obtain ⟨p, q, hA0, hV, rfl, hfz, hnd⟩ := hW
  have hA : DataW.TrodAll enc Tryz.prog W 0 (fun _ => true) true Tryz.f3.params.toList args.toList ds p := hA0
  rw [Tryz.params3] at hA hval
  obtain ⟨v0, vs0, d0, ds0, p0, q0, hargs, rfl, rfl, h0, r0⟩ := trodAll_cons hA
  obtain ⟨rfl, rfl, rfl⟩ := trodAll_nil r0
  obtain rfl : args = #[v0] := by cases args; simp_all
  obtain ⟨rfl, rfl⟩ := trodVars_none hV
  obtain ⟨a0, len0, cap0, rfl⟩ := okWide_slice Tryz.underlying22 (hval 0 22 v0 rfl rfl)
  have k0 := h0
  have lt0 : ∀ x ∈ p0, x.block < W.heap.size := by obtain ⟨m, hm⟩ := k0; exact DataW.trod_lt m _ _ _ hm
  obtain ⟨z0, w0⟩ : ∃ zs, IsRow .u8 W a0 len0 cap0 zs := by
    obtain ⟨fuel, hf⟩ := h0
    rcases open_ints Tryz.underlying22 Tryz.underlying5 (by kernel_rfl) hf with ⟨hcs, _⟩ | ⟨x, l, c, zs, hcs, _, hl, hm, hz, _, hcell, hwz⟩
    · simp [Value.cells] at hcs
      obtain ⟨rfl, rfl, rfl⟩ := hcs
      exact ⟨[], .inl ⟨rfl, rfl, rfl, rfl⟩⟩
    · simp [Value.cells] at hcs
      obtain ⟨rfl, rfl, rfl⟩ := hcs
      exact ⟨zs, .inr ⟨_, rfl, hl, hm, by simpa using hz, hcell, hwz⟩⟩
  clear hA0 hval0
  refine (walk a0 len0 cap0 z0 W w0).mono fun e W' ⟨he, bel⟩ => ?_
  subst he
  exact ⟨_, rfl, _, _, _, [], _, [], hW', trodAll_mk1 (shut_bool Tryz.underlying4 _), (trodAll_cons_mk (Below.trod laidOut (by kernel_rfl) (of_decide_eq_true (by kernel_rfl)) k0 bel lt0) trodAll_mk0), rfl, bel.frame _, fun h => by cases h⟩

theorem over : Rows.fnWaysRow.holds Tryz.pinned (OpenSpec.ofChange Rows.fnWaysSpec) :=
  OpenClaim.holds_of_wide 3 Tryz.f3 rfl rfl rfl rfl rfl rfl rfl ⟨rfl, rfl, rfl, rfl, rfl⟩ rfl rfl rfl rfl rfl (by kernel_rfl) Tryz.func3 (by kernel_rfl)
    (of_decide_eq_true (by kernel_rfl)) (by unfold Func.isWrapper; first | (rw [if_pos (by decide +kernel)]; kernel_rfl) | (rw [if_neg (by decide +kernel)]; exact ⟨rfl, rfl⟩))
    (fun os started H enc _ => lifted os started H enc)

theorem proved : Rows.FnWaysSaid := over
end Go.Proofs.YtlklnabnomfhbaaGreat.fnWays
