/- EncodeHex of the program and of the model: up to the limit both return the same text and true; beyond it the empty text and false. No condition but the length that every string has. -/
import Derived.Test.YtfmafledakchhaaDoorProg
import Derived.Test.YtfmafledakchhaaDoorBase
import Derived.WalkKit
import Derived.WalkSpells
import Derived.BigQuiet
import Derived.Deep.QuietTactic
import Derived.Deep.RegionHeld3
import Derived.Deep.AppendLies
import Derived.Lib.Hide
import Derived.IntWalk
import Derived.Deep.DeepMust
namespace Go.Proofs.YtfmafledakchhaaDoor
open Go.RowKit
def figN (x : Nat) : Nat := if x < 10 then 48 + x else 87 + x
theorem hex_at : ∀ n : Nat, n < 16 → ∀ h, (({ data := #[48, 49, 50, 51, 52, 53, 54, 55, 56, 57, 97, 98, 99, 100, 101, 102] } : ByteArray)[n]'h).toNat = figN n := by
  intro n hn
  match n, hn with
  | 0, _ | 1, _ | 2, _ | 3, _ | 4, _ | 5, _ | 6, _ | 7, _ | 8, _ | 9, _ | 10, _ | 11, _ | 12, _ | 13, _ | 14, _ | 15, _ => intro h; rfl
  | n + 16, hn => omega
theorem hex_at' (m n : Nat) (e : m = n) (hn : n < 16) : ∀ h, (({ data := #[48, 49, 50, 51, 52, 53, 54, 55, 56, 57, 97, 98, 99, 100, 101, 102] } : ByteArray)[m]'h).toNat = figN n := by
  subst e; exact hex_at m hn
theorem and15 (c : UInt8) : bits BinOp.and IntKind.u8 (c.toNat : Int) 15 = (c.toNat : Int) % 16 := by
  have h := c.toNat_lt
  exact bits_mask .u8 8 (by decide) wraps_u8 4 (by omega) (c.toNat : Int) (by omega) (by omega)
theorem infoU8 : (Tryd.prog.info? 5).map (fun i => (i.zero, i.size, i.bytes)) = some (some (.int .u8 0), 1, 1) := by kernel_rfl
def encN : List UInt8 → List Int
  | [] => []
  | c :: r => (figN (c.toNat / 16) : Int) :: (figN (c.toNat % 16) : Int) :: encN r
theorem encN_snoc (l : List UInt8) (c : UInt8) : encN (l ++ [c]) = encN l ++ [(figN (c.toNat / 16) : Int), (figN (c.toNat % 16) : Int)] := by
  induction l with
  | nil => rfl
  | cons x r ih => simp [encN, ih]
def encS (s : ByteArray) : ByteArray := strOfNums (encN s.data.toList)
theorem figure (x : Int) (w : World) (h0 : 0 ≤ x) (h1 : x ≤ 15) :
    Calls Tryd.prog 32 #[.int .i64 x] w fun e w' => e = .returned (.int .u8 (figN x.toNat : Nat)) ∧ w = w' := by
  by_cases h : x < 10
  all_goals
    go_enter Tryd.func32, Tryd.ntmps32
    go_wp2
    go_ret
    refine ⟨ret_int ?_, rfl⟩
    unfold figN
    split <;> omega

def EncPost (s : ByteArray) (w : World) (e : Ending) (w' : World) : Prop := e = .returned (.tuple #[.string (encS s), .bool true]) ∧ Below w.heap.size w w'
set_option maxHeartbeats 1000000 in
theorem implEnc (s : ByteArray) (w : World) (hs : s.size ≤ 20000)  :
    Calls Tryd.prog 10 #[.string s] w (EncPost s w) := by
  have hf : ¬ (20000 : Int) < s.size := by omega
  obtain ⟨i0, hi, hz0, hz1, hz2⟩ := info_parts infoU8
  go_enter Tryd.func10, Tryd.ntmps10
  go_wp2_with (at_make; refine wpList_make_own _ rfl _ _ 22 rfl w.heap.size 5 i0 (.int .u8 0) 1 Tryd.underlying22 hi hz0 hz1 _ _ _ (2 * s.size) rfl rfl (by omega) ?b2 ?b3 (Nat.le_refl _) ?_)
  case b2 => omega
  case b3 => unfold maxLen; omega
  intro w0 hown0 hgrow0
  go_wp2
  go_loopw [4, 15] (fun v i wr => ∃ k : Nat, k ≤ s.size ∧ i = .int .i64 k ∧ wr.ownsRow w.heap.size 5 1 v (2*k) ((encN (s.data.toList.take k)).map (Value.int .u8)) ∧ Below w.heap.size w wr)
    (fun _ i _ => s.size - (intOf i).toNat)
  case atStart => exact ⟨0, Nat.zero_le _, rfl, hown0, (Below.refl _ _).grown hgrow0 (Nat.le_refl _) (fun k h => by cases h)⟩
  case round =>
    obtain ⟨k, hk, rfl, hown, hb⟩ := hrel
    by_cases hlt : k < s.size
    · have h0 : (0 : Int) ≤ (k : Int) := by omega
      have h1 : (k : Int) < (s.size : Int) := by omega
      have hts := take_snoc s k hlt
      go_wp2_with fail
      have hbz := hb.size
      obtain ⟨c, hc⟩ : ∃ c, s[k] = c := ⟨_, rfl⟩
      rw [hc] at hts
      have HT := Lib.hid hts; clear hts
      have hc1 : c.toNat / 16 < 16 := by have := c.toNat_lt; omega
      have hc2 : c.toNat % 16 < 16 := by omega
      have hd0 : (0 : Int) ≤ (c.toNat : Int) / 16 := by omega
      have hd1 : (c.toNat : Int) / 16 < 16 := by omega
      have hd2 : (0 : Int) ≤ (c.toNat : Int) % 16 := by omega
      have hd3 : (c.toNat : Int) % 16 < 16 := by omega
      have hx1 : ∀ h, (({ data := #[48, 49, 50, 51, 52, 53, 54, 55, 56, 57, 97, 98, 99, 100, 101, 102] } : ByteArray)[((c.toNat : Int) / 16).toNat]'h).toNat = figN (c.toNat / 16) := hex_at' _ _ (by omega) hc1
      have hx2 : ∀ h, (({ data := #[48, 49, 50, 51, 52, 53, 54, 55, 56, 57, 97, 98, 99, 100, 101, 102] } : ByteArray)[((c.toNat : Int) % 16).toNat]'h).toNat = figN (c.toNat % 16) := hex_at' _ _ (by omega) hc2
      have ha := and15 c
      go_region_held3 (fun _ => True) (exact trivial) ((refine step_append_lies _ (by rfl) _ _ _ (by rfl) w.heap.size 5 i0 _ 1 1 Tryd.underlying22 hi hz0 hz1 hz2 rfl (by omega) u4 (2*k) _ (by rfl) ((hown.alloc _).drew) ⟨wr.heap.size, 0, none⟩ 2 2 [.int .u8 (figN (c.toNat / 16)), .int .u8 (figN (c.toNat % 16))] (by rfl) (by rfl) (World.news_of_block (cs := #[.int .u8 (figN (c.toNat / 16)), .int .u8 (figN (c.toNat % 16))]) (t := 5) (fr := (0, 0)) (heap_alloc_new wr _)) (by simp [Value.oneCell']) (by omega) (by unfold maxLen; omega) (by omega) (by simp; omega) (wr.heap.size + 1) (by simp) ?_; intro gg cap w1 hown1 hgrow hat hlt))
      all_goals
        clear hx1 hx2 ha hd0 hd1 hd2 hd3 hc
        have hb1 : Below w.heap.size w w1 := (((hb.alloc (by omega) _).drew).grown hgrow (by simp; omega) (fun g hg => hown.lt g hg |>.1))
        have hown2 : w1.ownsRow w.heap.size 5 1 (.slice (some ⟨gg, 0, none⟩) (2 * (k + 1)) cap) (2 * (k + 1)) ((encN (s.data.toList.take (k + 1))).map (Value.int .u8)) := by
          rw [HT.out, encN_snoc, List.map_append]; exact hown1
        clear hown1 hgrow hown hat HT
        go_wp2
        go_roundw
        case rel => exact ⟨k + 1, by omega, by go_num, hown2, hb1⟩
        case measure => simp [intOf]; omega
    · obtain rfl : k = s.size := by omega
      have hcv := convert_own (P := Tryd.prog) wr 22 5 9 Tryd.underlying22 Tryd.underlying5 Tryd.underlying9 hown
      rw [take_all] at hcv
      go_wp2
      go_ret2
      exact ⟨rfl, hb⟩
theorem implEnc_long (s : ByteArray) (w : World) (hs : 20000 < s.size) (hm : s.size ≤ maxLen) :
    Calls Tryd.prog 10 #[.string s] w fun e w' => e = .returned (.tuple #[.string ⟨#[]⟩, .bool false]) ∧ w = w' := by
  unfold maxLen at hm
  go_enter Tryd.func10, Tryd.ntmps10
  go_wp2
  go_ret2
  exact ⟨rfl, rfl⟩
end Go.Proofs.YtfmafledakchhaaDoor
