/- Lemmas of no program: a byte slice that a call owns, as a string; lists of bytes as numbers. A region whose order is open, by a script: operations that come to one value in every world to come are taken in whatever order is written; the one operation that may come up is carried out. Of no program. Bits of numbers: the indices of the bits, their sum and their number; the sums of OnesCount64, byte by byte. Of no program. What BoardOk, isSide, size, allHoles and the model's range test give. The bits of a board as a list; HolesOf and CountHoles of the model, OnesCount64, CountHoles of the program. HolesOf of the program, HasHole of both. Rectangle of both, CrossBoard of the model; the laws' helpers for boards. CrossBoard of the program. append of one element within a region whose order is open; a board's box in a script. -/
import Derived.WalkKit
import Derived.WalkSpells
import Derived.Laws.BytesArg
import Derived.Laws.BitsLemmas
import Derived.Deep.AppendLies
import Derived.Lib.SmallJoins
import Derived.OrdersHeld
import Derived.Below
import Derived.Deep.RegionHeld
import Derived.Laws.Bits64b
import Derived.Laws.BitsAllLaws
import Derived.Test.YtgkmapemnlgldaaProg
import Derived.BigQuiet
import Derived.Deep.QuietTactic
import Derived.Deep.RegionHeld3
import Derived.Lib.Hide
import Derived.OwnWalk
namespace Go.Proofs.Ytgkmapemnlgldaa
open Go.RowKit

theorem ret_int {k : IntKind} {a b : Int} (h : a = b) : Ending.returned (.int k a) = .returned (.int k b) := by rw [h]
theorem ret_bool {a b : Bool} (h : a = b) : Ending.returned (.bool a) = .returned (.bool b) := by rw [h]
theorem ret_str {a b : ByteArray} (h : a = b) : Ending.returned (.string a) = .returned (.string b) := by rw [h]

/-- 'string(v)' of a byte slice that the call owns. -/
theorem convert_own {P : Program} (w : World) (src e dst : TypeId) (hs : P.underlying src = some (.slice e)) (he : P.underlying e = some (.int .u8)) (hd : P.underlying dst = some .string)
    {base n : Nat} {v : Value} {xs : List Int} (h : w.ownsRow base e 1 v n (xs.map (Value.int .u8))) : (convert src dst v).run P w = .ok (.string (strOfNums xs)) w := by
  have hl : xs.length = n := by have := h.1; simpa using this
  rcases Go.Joins.ownsRow_forms h with ⟨rfl, rfl⟩ | ⟨g, cap, rfl⟩
  · have hx : xs = [] := List.eq_nil_of_length_eq_zero hl
    subst hx
    rw [run_convert_bytes_nil w src e hs he 0 0 dst hd]
    rfl
  · exact run_convert_bytes_arg w src e hs he g 0 n cap xs hl (fun i hi => by
      have hc := h.cellAt i (by omega)
      rw [Nat.zero_add, hc]
      have hi' : i < xs.length := by omega
      simp [List.getD, hi']) dst hd

/-- Bytes as numbers. -/
def nums (l : List UInt8) : List Int := l.map fun c => (c.toNat : Int)
theorem strOfNums_nums (s : ByteArray) : strOfNums (nums s.data.toList) = s := by
  unfold strOfNums nums
  apply ByteArray.ext
  apply Array.toList_inj.1
  simp [Function.comp_def]

/-- A list of bytes as a string. -/
def bs (l : List UInt8) : ByteArray := ⟨l.toArray⟩
theorem strOfNums_bs (l : List UInt8) : strOfNums (nums l) = bs l := strOfNums_nums (bs l)
theorem bs_data (s : ByteArray) : bs s.data.toList = s := by apply ByteArray.ext; apply Array.toList_inj.1; simp [bs]
theorem bs_append (a b : List UInt8) : bs a ++ bs b = bs (a ++ b) := by apply ByteArray.ext; apply Array.toList_inj.1; simp [bs]
theorem bs_size (l : List UInt8) : (bs l).size = l.length := by simp [bs, ByteArray.size]
theorem str_ne {t s : ByteArray} (h : t ≠ s) : (t.toList == s.toList) = false := by
  rw [beq_eq_false_iff_ne, ByteArray.toList_eq, ByteArray.toList_eq]
  intro e
  exact h (ByteArray.ext (Array.toList_inj.1 e))
theorem take_snoc (s : ByteArray) (k : Nat) (h : k < s.size) : s.data.toList.take (k + 1) = s.data.toList.take k ++ [s[k]] := by
  rw [List.take_succ_eq_append_getElem (by simpa using h)]; rfl
theorem take_all (s : ByteArray) : s.data.toList.take s.size = s.data.toList := List.take_of_length_le (by simp)
theorem own_below {w w' : World} {base : Nat} {e : TypeId} {size : Nat} {v : Value} {n : Nat} {xs : List Value} (h : w.ownsRow base e size v n xs) (hb : Below w.heap.size w w') : w'.ownsRow base e size v n xs :=
  h.kept (row := none) ⟨hb.os, hb.tape, hb.output, hb.size, fun j hj _ => hb.block j hj⟩ (by cases hv : v.ownBlock <;> simp)
theorem grown_below {w w' : World} (hb : Below w.heap.size w w') (r : Option Nat) : w.grownBy w' r := ⟨hb.os, hb.tape, hb.output, hb.size, fun j hj _ => hb.block j hj⟩
/-- Rows of two element types lie in two blocks. -/
theorem own_ne {w : World} {b1 b2 : Nat} {e1 e2 : TypeId} {s1 s2 n1 n2 : Nat} {v1 v2 : Value} {x1 x2 : List Value} (h1 : w.ownsRow b1 e1 s1 v1 n1 x1) (h2 : w.ownsRow b2 e2 s2 v2 n2 x2) (he : e1 ≠ e2) : v1.ownBlock = none ∨ v1.ownBlock ≠ v2.ownBlock := by
  rcases h1.2 with ⟨rfl, _⟩ | ⟨g, cap, cur, rfl, _, hg, _⟩
  · exact .inl rfl
  · right
    rcases h2.2 with ⟨rfl, _⟩ | ⟨g', cap', cur', rfl, _, hg', _⟩
    · intro h; cases h
    · intro h
      have : g = g' := by simpa [Value.ownBlock] using h
      subst this
      rw [hg] at hg'
      cases hg'
      exact he rfl
/-- A row from base on, and one whose base lies behind the first one's block, lie in two blocks. -/
theorem own_apart {w w1 : World} {b1 b2 : Nat} {e1 e2 : TypeId} {s1 s2 n1 n2 : Nat} {v1 v2 : Value} {x1 x2 : List Value} (h1 : w1.ownsRow b1 e1 s1 v1 n1 x1) (h2 : w.ownsRow b2 e2 s2 v2 n2 x2) (hb : w1.heap.size ≤ b2) : v1.ownBlock = none ∨ v1.ownBlock ≠ v2.ownBlock := by
  cases hv : v1.ownBlock with
  | none => exact .inl rfl
  | some g =>
    right
    intro h
    have a := h1.lt g hv
    have b := h2.lt g h.symm
    omega
theorem own_zero {w : World} {b : Nat} {e : TypeId} {g cap n : Nat} {xs : List Value} (h : w.ownsRow b e 1 (.slice (some ⟨g, 0, none⟩) n cap) n xs) : w.ownsRow b e 1 (.slice (some ⟨g, 0, none⟩) 0 cap) 0 [] := by
  rcases h.2 with ⟨h', _⟩ | ⟨g', cap', cur, h', hb, hg, hn, hc, hs, _⟩
  · cases h'
  · cases h'
    exact ⟨rfl, .inr ⟨g, cap, cur, rfl, hb, hg, Nat.zero_le _, hc, hs, by simp⟩⟩
theorem own_cell {w : World} {base : Nat} {e : TypeId} {g n cap : Nat} {xs : List Value} (h : w.ownsRow base e 1 (.slice (some ⟨g, 0, none⟩) n cap) n xs) (k : Nat) (hk : k < n) (x : Value) (hx : xs[k]? = some x) :
    w.cell? ⟨g, k, none⟩ = some x := by
  have := h.cellAt k (by omega)
  rw [hx] at this
  exact this
/-- append(v, x) of one element of one cell, v owned: the one block with x has just been laid. -/
theorem wpList_append_one {P : Program} {ops : Array Oper} {rest : List Oper} {o : Oper} {a : Act} {Q : Exit → Act → World → Prop} {w0 : World} {x : Value} (hgd : o.guard = none) (s y : Operand) (t : TypeId)
    (ho : o.op = .call { callee := .builtin .append, args := #[s, y], argTypes := #[t, t] })
    (base : Nat) (e : TypeId) (i : TypeInfo) (z : Value) (bytes : Nat) (ht : P.underlying t = some (.slice e)) (hi : P.info? e = some i) (hz : i.zero = some z)
    (hsize : i.size = 1) (hby : i.bytes = bytes) (hzs : z.cells.size = 1) (hsm : bytes ≤ 64)
    (v : Value) (n : Nat) (xs : List Value) (hs : a.eval s = v) (hown : w0.ownsRow base e 1 v n xs)
    (hx : a.eval y = .slice (some ⟨w0.heap.size, 0, none⟩) 1 1) (h1 : x.oneCell' = true) (hn : n ≤ 1000000000) (hbase : base ≤ w0.heap.size)
    (h : ∀ g cap w', w'.ownsRow base e 1 (.slice (some ⟨g, 0, none⟩) (n + 1) cap) (n + 1) (xs ++ [x]) → (w0.alloc (.cells #[x] e)).grownBy w' v.ownBlock → Below base w0 w' → wpList P ops Q rest (a.put o.dst (.slice (some ⟨g, 0, none⟩) (n + 1) cap)) w') :
    wpList P ops Q (o :: rest) a (w0.alloc (.cells #[x] e)) := by
  have hnb : (n + 1) * bytes ≤ 140737488355328 := Nat.le_trans (Nat.mul_le_mul (show n + 1 ≤ 1000000001 by omega) hsm) (by decide)
  refine wpList_append_lies _ hgd s y t ho base e i z 1 bytes ht hi hz hsize hby hzs Nat.one_pos v n xs hs (hown.alloc _) ⟨w0.heap.size, 0, none⟩ 1 1 [x] hx rfl
    (World.news_of_block (cs := #[x]) (t := e) (fr := (0, 0)) (heap_alloc_new w0 _)) (by intro u hu; simp at hu; subst hu; exact h1) Nat.one_pos (by unfold maxLen; omega) hnb (by simp; omega) _ rfl ?_
  intro g cap w' h2 h3 _ _
  exact h g cap w' h2 h3 (((Below.refl base w0).alloc hbase _).grown h3 (by simp; omega) (fun k hk => (hown.lt k hk).1))
end Go.Proofs.Ytgkmapemnlgldaa

namespace Go.Proofs.Ytgkmapemnlgldaa
open Go.RowKit
section
variable {P : Program} {ops : Array Oper} {Q : Exit → Act → World → Prop} {md : Region.Mode}
/-- The world has grown; nothing of it has turned. -/
def After (w w' : World) : Prop := Below w.heap.size w w'
theorem After.refl (w : World) : After w w := Below.refl _ _
theorem After.trans {a b c : World} (h : After a b) (k : After b c) : After a c := Below.trans h (Below.mono k (Below.size h))
theorem After.drew {a b : World} (h : After a b) : After a b.drew := Below.drew h
/-- What holds of a world holds of what it grows to. -/
def Closed (S : World → Prop) : Prop := ∀ w w', S w → After w w' → S w'
theorem closed_after (w0 : World) : Closed (After w0) := fun _ _ h k => h.trans k
theorem closed_true : Closed (fun _ => True) := fun _ _ _ _ => trivial
theorem closed_row (p : Nat) (o : Obj) : Closed (fun w => w.heap[p]? = some o) := fun w w' h k => by
  have h : w.heap[p]? = some o := h
  have hlt : p < w.heap.size := by
    rcases Nat.lt_or_ge p w.heap.size with h' | h'
    · exact h'
    · rw [Array.getElem?_eq_none h'] at h; cases h
  exact (Below.block k p hlt).trans h
/-- A pointer to a row at or beyond B. -/
def PtrRow (B : Nat) (cs : Array Value) (T : TypeId) (v : Value) (w : World) : Prop := ∃ p, v = .pointer (some ⟨p, 0, none⟩) ∧ B ≤ p ∧ w.heap[p]? = some (.cells cs T (0, 0))
theorem closed_ptr {B : Nat} {cs : Array Value} {T : TypeId} {v : Value} : Closed (PtrRow B cs T v) := fun w w' ⟨p, hv, hB, h⟩ k => ⟨p, hv, hB, closed_row p _ w w' h k⟩
theorem Closed.and {S S' : World → Prop} (h : Closed S) (h' : Closed S') : Closed (fun w => S w ∧ S' w) := fun w w' hh k => ⟨h w w' hh.1 k, h' w w' hh.2 k⟩
/-- In state 'a', in every world that meets S, operation 'o' comes to 'c', and the world grows. -/
def Fixes (P : Program) (ops : Array Oper) (S : World → Prop) (o : Oper) (c : Value) (a : Act) : Prop :=
  (Region.wanted o (yielded ops a.tmps) = true ∧ ∀ w, S w → o.wp P a w (fun a' w' => a' = a.put o.dst c ∧ After w w') (fun _ _ _ => False)) ∨
  (Region.wanted o (yielded ops a.tmps) = false ∧ c = undef)
theorem put_size (a : Act) (d : Option Tmp) (v : Value) : (a.put d v).tmps.size = a.tmps.size := by cases d <;> simp [Act.put]
theorem put_same {a b : Act} (hs : a.tmps.size = b.tmps.size) {d : Option Tmp} {u v : Value} (h : a.put d u = a.put d v) : b.put d u = b.put d v := by
  cases d with
  | none => rfl
  | some t =>
    by_cases ht : t < a.tmps.size
    · have h1 : (a.put (some t) u).tmps[t]? = (a.put (some t) v).tmps[t]? := by rw [h]
      simp [Act.put, ht] at h1
      rw [h1]
    · have hb : ¬ t < b.tmps.size := by rw [← hs]; exact ht
      simp only [Act.put, Array.setIfInBounds, hb, dite_false]
theorem wp_same {o : Oper} {a b : Act} {w : World} {c : Value} (hs : a.tmps.size = b.tmps.size) (he : execOp b.eval o = execOp a.eval o)
    (h : o.wp P a w (fun a' w' => a' = a.put o.dst c ∧ After w w') (fun _ _ _ => False)) : o.wp P b w (fun a' w' => a' = b.put o.dst c ∧ After w w') (fun _ _ _ => False) := by
  unfold Oper.wp at *
  rw [he]
  generalize (execOp a.eval o).run P w = r at *
  cases r with
  | ok n w' =>
    cases n <;> simp only [Oper.upon] at h ⊢
    case value u => exact ⟨put_same hs h.1, h.2⟩
    case skip => exact ⟨put_same hs h.1, h.2⟩
    case defer d =>
      have h1 := congrArg Act.defers h.1
      have e1 : ∀ (x : Act) (y : Option Tmp) v, (x.put y v).defers = x.defers := fun x y v => by cases y <;> rfl
      rw [e1, e1] at h1
      have := congrArg List.length h1
      simp at this
    case enter f args =>
      refine Calls.mono h fun e w'' he => ?_
      cases e with
      | returned u => exact ⟨put_same hs he.1, he.2⟩
      | panicked c => exact he
      | outgrown => exact he
    case row row args => exact Rows.mono h fun u w'' he => ⟨put_same hs he.1, he.2⟩
  | halt x w' =>
    cases x <;> simp only [Oper.upon] at h ⊢
theorem Fixes.of_same {S : World → Prop} {o : Oper} {c : Value} {a b : Act} (h : Fixes P ops S o c a) (hs : a.tmps.size = b.tmps.size) (he : execOp b.eval o = execOp a.eval o)
    (hw : Region.wanted o (yielded ops b.tmps) = Region.wanted o (yielded ops a.tmps)) : Fixes P ops S o c b := by
  unfold Fixes at *
  rw [hw]
  exact h.imp (fun ⟨x, y⟩ => ⟨x, fun w hA => wp_same hs he (y w hA)⟩) id
theorem Fixes.sub {S S' : World → Prop} {o : Oper} {c : Value} {a : Act} (h : Fixes P ops S o c a) (hA : ∀ w, S' w → S w) : Fixes P ops S' o c a :=
  h.imp (fun ⟨x, y⟩ => ⟨x, fun w hw => y w (hA w hw)⟩) id
theorem wp_post {o : Oper} {a : Act} {w : World} {K : Act → World → Prop} (h : o.wp P a w K (fun _ _ _ => False)) : o.wp P a w K Q := by
  unfold Oper.wp at *
  generalize (execOp a.eval o).run P w = r at *
  cases r with
  | ok n w' =>
    cases n <;> simp only [Oper.upon] at h ⊢ <;> first | exact h | skip
    case enter f args =>
      refine Calls.mono h fun e w'' he => ?_
      cases e with
      | returned u => exact he
      | panicked c => exact he.elim
      | outgrown => obtain ⟨_, _, hf⟩ := he; exact hf.elim
  | halt x w' =>
    cases x <;> simp only [Oper.upon] at h ⊢
theorem Fixes.wpOp {i : Nat} {o : Oper} {c : Value} {a : Act} {S : World → Prop} {w : World} (hi : ops[i]? = some o) (h : Fixes P ops S o c a) (hA : S w)
    {K : Act → World → Prop} (hK : ∀ w', After w w' → K (a.put o.dst c) w') : wpOp P ops Q i K a w := by
  unfold Go.wpOp
  simp only [hi]
  rcases h with ⟨hw, hv⟩ | ⟨hw, rfl⟩
  · simp only [hw, if_true]
    refine .inl (wp_post (Oper.wp_mono (fun a' w' h' => ?_) (hv w hA)))
    rw [h'.1]
    exact hK w' h'.2
  · simp only [hw, Bool.false_eq_true, if_false]; exact hK w (After.refl w)
/-- One operation 'oj', apart from 'oi': whether 'oi's value is already in its temporary makes no difference to it, and it makes none to 'oi'. -/
theorem wpOp_fix {j : Nat} {oi oj : Oper} {v : Value} {S : World → Prop} (hj : ops[j]? = some oj) (hap : oi.apart ops oj = true)
    (hsi : ∀ cs b, oi.op ≠ .select cs b) (hsj : ∀ cs b, oj.op ≠ .select cs b)
    (hQ : ∀ c a w, Q (.panic c) (a.put oi.dst v) w → Q (.panic c) a w) {K : Act → World → Prop} {a : Act} {w : World}
    (hy : Fixes P ops S oi v a) (h : wpOp P ops Q j K (a.put oi.dst v) w) :
    wpOp P ops Q j (fun a' w' => Fixes P ops S oi v a' ∧ K (a'.put oi.dst v) w') a w := by
  obtain ⟨h1, h2, h3⟩ := Oper.apart_spec hap
  have keep : ∀ (a : Act), Fixes P ops S oi v a → ∀ u, Fixes P ops S oi v (a.put oj.dst u) := fun a hy u =>
    hy.of_same (put_size _ _ _).symm (execOp_put oi hsi a oj.dst u h3) (wanted_put oi a oj.dst u h3)
  have keepD : ∀ d, Fixes P ops S oi v { a with defers := d :: a.defers } := fun d => hy.of_same rfl rfl rfl
  unfold wpOp at *
  simp only [hj] at *
  rw [wanted_put oj a oi.dst v h1] at h
  split
  · rename_i hw
    simp only [hw, if_true] at h
    rcases h with h | ⟨hasks, hlets⟩
    case inr => exact .inr ⟨by unfold Oper.asks at *; rw [execOp_put oj hsj a oi.dst v h1] at hasks; exact hasks, hlets⟩
    refine .inl ?_
    unfold Oper.wp at *
    rw [execOp_put oj hsj a oi.dst v h1] at h
    generalize (execOp a.eval oj).run P w = r at *
    cases r with
    | ok n w' =>
      cases n <;> simp only [Oper.upon] at h ⊢
      case value u => exact ⟨keep a hy u, by rw [← Act.put_comm a v u h2]; exact h⟩
      case skip => exact ⟨keep a hy _, by rw [← Act.put_comm a v undef h2]; exact h⟩
      case defer d =>
        refine ⟨keep _ (keepD d) _, ?_⟩
        rw [← Act.put_comm _ v undef h2, ← Act.put_defers]
        exact h
      case enter f args =>
        refine Calls.mono h fun e w'' he => ?_
        cases e with
        | returned u => exact ⟨keep a hy u, by rw [← Act.put_comm a v u h2]; exact he⟩
        | panicked c => exact hQ _ _ _ he
        | outgrown => exact he
      case row row args => exact Rows.mono h fun u w'' he => ⟨keep a hy u, by rw [← Act.put_comm a v u h2]; exact he⟩
    | halt x w' =>
      cases x <;> simp only [Oper.upon] at h ⊢
      case panic u => exact hQ _ _ _ h
  · rename_i hw
    simp only [hw] at h
    exact ⟨keep a hy _, by rw [← Act.put_comm a v undef h2]; exact h⟩
/-- Whatever an operation waits for has been taken if it has been taken. -/
def Down (md : Region.Mode) (ops : Array Oper) (listed : Array Bool) : Prop :=
  ∀ (k : Nat) (o : Oper), ops[k]? = some o → listed.getD k false = true → ∀ e ∈ o.after, Region.binds md e = true → listed.getD e.on false = true
/-- An operation that asks nothing of the world. -/
def plain : Op → Bool
  | .move _ | .assign _ | .extract _ _ => true
  | _ => false
/-- An operation that comes up only behind all others but plain ones. -/
def Behind (md : Region.Mode) (ops : Array Oper) (i : Nat) : Prop :=
  ∀ (listed : Array Bool) (k : Nat) (o : Oper), Down md ops listed → i ∈ Region.ready md ops listed → ops[k]? = some o → k = i ∨ plain o.op = true ∨ listed.getD k false = true
theorem getD_two {l : Array Bool} {i : Nat} (h : l.getD i false = true) : l.getD i true = true := by
  rcases Nat.lt_or_ge i l.size with h' | h'
  · simpa [Array.getD, h'] using h
  · simp [Array.getD, Nat.not_lt.2 h'] at h
theorem Down.set {listed : Array Bool} {i : Nat} (h : Down md ops listed) (hi : i ∈ Region.ready md ops listed) : Down md ops (listed.setIfInBounds i true) := by
  intro k o hk hl e he hb
  have up : ∀ j, listed.getD j false = true → (listed.setIfInBounds i true).getD j false = true := fun j hj => by
    by_cases hij : i = j
    · subst hij
      rcases Nat.lt_or_ge i listed.size with h' | h'
      · simp [h']
      · simp [Array.getD, Nat.not_lt.2 h'] at hj
    · rw [getD_set_ne false hij]; exact hj
  by_cases hki : i = k
  · subst hki
    obtain ⟨-, o', ho', hall⟩ := mem_ready.1 hi
    obtain rfl : o = o' := Option.some.inj (hk.symm.trans ho')
    exact up _ (hall e he hb)
  · rw [getD_set_ne false hki] at hl
    exact up _ (h k o hk hl e he hb)
theorem down_none (n : Nat) : Down md ops (Array.replicate n false) := by
  intro k o _ hl
  rcases Nat.lt_or_ge k n with h' | h'
  · simp [Array.getD, h'] at hl
  · simp [Array.getD, Nat.not_lt.2 h'] at hl
/-- What a list of operations waits for, with themselves. -/
def reach (md : Region.Mode) (ops : Array Oper) : Nat → List Nat → List Nat
  | 0, l => l
  | n + 1, l => reach md ops n (l ++ (l.flatMap fun k => ((ops[k]?).map fun o => (o.after.toList.filter (Region.binds md)).map (·.on)).getD []).filter fun k => !l.contains k)
def behind (md : Region.Mode) (ops : Array Oper) (i : Nat) : Bool :=
  (List.range ops.size).all fun k => ((ops[k]?).map fun o => plain o.op).getD true || (reach md ops ops.size [i]).contains k
theorem reach_listed {listed : Array Bool} {i : Nat} (hd : Down md ops listed) (hi : i ∈ Region.ready md ops listed) : ∀ (n : Nat) (l : List Nat), (∀ k ∈ l, k = i ∨ listed.getD k false = true) → ∀ k ∈ reach md ops n l, k = i ∨ listed.getD k false = true
  | 0, l, h => h
  | n + 1, l, h => by
    refine reach_listed hd hi n _ fun k hk => ?_
    rcases List.mem_append.1 hk with hk | hk
    · exact h k hk
    · obtain ⟨j, hj, hm⟩ := List.mem_flatMap.1 (List.mem_filter.1 hk).1
      cases hoj : ops[j]? with
      | none => simp [hoj] at hm
      | some o =>
        simp only [hoj, Option.map_some, Option.getD_some, List.mem_map, List.mem_filter, Array.mem_toList_iff] at hm
        obtain ⟨e, ⟨he, hb⟩, rfl⟩ := hm
        rcases h j hj with rfl | hl
        · obtain ⟨-, o', ho', hall⟩ := mem_ready.1 hi
          obtain rfl : o = o' := Option.some.inj (hoj.symm.trans ho')
          exact .inr (hall e he hb)
        · exact .inr (hd j o hoj hl e he hb)
theorem Behind.of {i : Nat} (h : behind md ops i = true) : Behind md ops i := by
  intro listed k o hd hi hk
  have hlt : k < ops.size := (Array.getElem?_eq_some_iff.1 hk).1
  have h1 := List.all_eq_true.1 h k (List.mem_range.2 hlt)
  rw [hk, Option.map_some, Option.getD_some, Bool.or_eq_true, List.contains_iff_mem] at h1
  rcases h1 with h1 | h1
  · exact .inr (.inl h1)
  · rcases reach_listed hd hi ops.size [i] (fun j hj => .inl (List.mem_singleton.1 hj)) k h1 with h2 | h2
    · exact .inl h2
    · exact .inr (.inr h2)
/-- A plain operation comes to the same in every world. -/
theorem Fixes.plain {S S' : World → Prop} {o : Oper} {c : Value} {a : Act} {w : World} (hp : Go.Proofs.Ytgkmapemnlgldaa.plain o.op = true) (hw : S w) (h : Fixes P ops S o c a) : Fixes P ops S' o c a := by
  rcases h with ⟨h1, h2⟩ | h
  · refine .inl ⟨h1, fun w' _ => ?_⟩
    have h3 := h2 w hw
    obtain ⟨d, op, ty, pos, aft, gd⟩ := o
    cases op <;> simp only [Go.Proofs.Ytgkmapemnlgldaa.plain, Bool.false_eq_true] at hp
    case move x => exact ⟨h3.1, After.refl _⟩
    case assign x => exact ⟨h3.1, After.refl _⟩
    case extract x j =>
      unfold Oper.wp at *
      simp only [execOp] at h3 ⊢
      generalize a.eval x = v at *
      unfold Instr.extract at *
      cases v with
      | tuple vs =>
        simp only at h3 ⊢
        cases hv : vs[j]? with
        | none => rw [hv] at h3; exact h3.elim
        | some x => rw [hv] at h3; exact ⟨h3.1, After.refl _⟩
      | _ => exact h3.elim
  · exact .inr h
/-- A script of a region whose order is open: done; or an operation that comes to one value in every world that meets S; or all operations that may come up, one after another. G: what else is told of the world at hand (it holds till the next such operation). -/
def Script (P : Program) (md : Region.Mode) (ops : Array Oper) (Q : Exit → Act → World → Prop) : Nat → (World → Prop) → (World → Prop) → Array Bool → Act → Prop
  | 0, S, G, listed, a => Region.ready md ops listed = [] ∧ ∀ w, S w → G w → Q .normal a w
  | n + 1, S, G, listed, a =>
    (Region.ready md ops listed = [] ∧ ∀ w, S w → G w → Q .normal a w) ∨
    (∃ i oi c, ops[i]? = some oi ∧ i ∈ Region.ready md ops listed ∧ Region.free md ops listed i = true ∧ (∀ k a w, Q (.panic k) (a.put oi.dst c) w → Q (.panic k) a w) ∧ Fixes P ops S oi c a ∧ Script P md ops Q n S G (listed.setIfInBounds i true) (a.put oi.dst c)) ∨
    (Region.ready md ops listed ≠ [] ∧ ∀ i ∈ Region.ready md ops listed, ∀ w, S w → G w → wpOp P ops Q i (fun a' w' => ∃ S' G', ((∀ x, S' x → S x) ∨ Behind md ops i) ∧ Closed S' ∧ Closed G' ∧ S' w' ∧ G' w' ∧ Script P md ops Q n S' G' (listed.setIfInBounds i true) a') a w)
theorem free_mono {i j : Nat} {listed : Array Bool} (h : Region.free md ops listed i = true) : Region.free md ops (listed.setIfInBounds j true) i = true := by
  unfold Region.free at *
  cases hi : ops[i]? with
  | none => rw [hi] at h; exact h
  | some oi =>
    simp only [hi, List.all_eq_true, List.mem_range] at h ⊢
    intro k hk
    have h1 := h k hk
    simp only [Bool.or_eq_true] at h1 ⊢
    rcases h1 with (h1 | h1) | h1
    · exact .inl (.inl h1)
    · left; right
      by_cases hjk : j = k
      · subst hjk
        by_cases hl : j < listed.size <;> simp [hl]
      · rw [getD_set_ne true hjk]; exact h1
    · exact .inr h1
/-- An operation that may come up now, brought to the front. -/
theorem Script.front (hsel : Region.noSelect ops = true) : ∀ (n : Nat) (S G : World → Prop) (listed : Array Bool) (a : Act) (j : Nat), Closed S → Closed G → Down md ops listed → Script P md ops Q n S G listed a → j ∈ Region.ready md ops listed →
    ∃ m, n = m + 1 ∧ ((∃ oj c, ops[j]? = some oj ∧ Region.free md ops listed j = true ∧ (∀ k a w, Q (.panic k) (a.put oj.dst c) w → Q (.panic k) a w) ∧ Fixes P ops S oj c a ∧ Script P md ops Q m S G (listed.setIfInBounds j true) (a.put oj.dst c)) ∨
      (∀ w, S w → G w → wpOp P ops Q j (fun a' w' => ∃ S' G', ((∀ x, S' x → S x) ∨ Behind md ops j) ∧ Closed S' ∧ Closed G' ∧ S' w' ∧ G' w' ∧ Script P md ops Q m S' G' (listed.setIfInBounds j true) a') a w)) := by
  intro n
  induction n with
  | zero => intro S G listed a j _ _ _ h hj; rw [h.1] at hj; cases hj
  | succ n ih =>
    intro S G listed a j cS cG hdn h hj
    refine ⟨n, rfl, ?_⟩
    rcases h with ⟨h1, h2⟩ | ⟨i, oi, c, hi, hr, hf, hq, hfx, hs⟩ | ⟨-, h2⟩
    · rw [h1] at hj; cases hj
    · by_cases hji : j = i
      · subst hji
        exact .inl ⟨oi, c, hi, hf, hq, hfx, hs⟩
      · obtain ⟨hjun, oj, hoj, hall⟩ := mem_ready.1 hj
        have hnot : ∀ e ∈ oj.after, Region.binds md e = true → e.on ≠ i := fun e he hb heq => by
          have h1 := hall e he hb
          have h0 := (mem_ready.1 hr).1
          rw [heq] at h1
          rcases Nat.lt_or_ge i listed.size with h' | h'
          · simp [h'] at h0 h1; rw [h0] at h1; cases h1
          · simp [Array.getElem?_eq_none h'] at h1
        have hap := Region.free_spec hi hf j oj hoj hji hjun hnot
        obtain ⟨x1, x2, x3⟩ := Oper.apart_spec hap
        have hsi : ∀ cs b, oi.op ≠ .select cs b := fun cs b => Region.noSelect_spec hsel i oi cs b hi
        have hsj : ∀ cs b, oj.op ≠ .select cs b := fun cs b => Region.noSelect_spec hsel j oj cs b hoj
        obtain ⟨m, rfl, h | h⟩ := ih S G _ _ j cS cG (hdn.set hr) hs (ready_mono hj hji)
        · obtain ⟨oj', d, hoj', hfj, hqj, hfxj, hsj'⟩ := h
          obtain rfl : oj = oj' := Option.some.inj (hoj.symm.trans hoj')
          have hfx' : Fixes P ops S oj d a := hfxj.of_same (put_size _ _ _) (execOp_put oj hsj a oi.dst c x1).symm (wanted_put oj a oi.dst c x1).symm
          have hnew : Script P md ops Q (m + 1) S G (listed.setIfInBounds j true) (a.put oj.dst d) := by
            refine .inr (.inl ⟨i, oi, c, hi, ready_mono hr (Ne.symm hji), free_mono hf, hq, hfx.of_same (put_size _ _ _).symm (execOp_put oi hsi a oj.dst d x3) (wanted_put oi a oj.dst d x3), ?_⟩)
            rw [Array.setIfInBounds_comm _ _ hji, ← Act.put_comm a c d x2]
            exact hsj'
          by_cases hfree : Region.free md ops listed j = true
          · exact .inl ⟨oj, d, hoj, hfree, hqj, hfx', hnew⟩
          · exact .inr fun w hS hG => hfx'.wpOp hoj hS fun w' hA' => ⟨S, G, .inl fun _ h => h, cS, cG, cS _ _ hS hA', cG _ _ hG hA', hnew⟩
        · refine .inr fun w hS hG => ?_
          have h2 := wpOp_fix hoj hap hsi hsj (fun k a w => hq k a w) hfx (h w hS hG)
          refine wpOp_mono (fun a' w' h3 => ?_) h2
          obtain ⟨hfa, S', G', hsub, cS', cG', hS', hG', h4⟩ := h3
          have hfs : Fixes P ops S' oi c a' := by
            rcases hsub with hsub | hbe
            · exact hfa.sub hsub
            · rcases hbe listed i oi hdn hj hi with h5 | h5 | h5
              · exact absurd h5.symm hji
              · exact hfa.plain h5 hS
              · have h6 := getD_two h5
                rw [(mem_ready.1 hr).1] at h6
                cases h6
          refine ⟨S', G', hsub, cS', cG', hS', hG', .inr (.inl ⟨i, oi, c, hi, ready_mono hr (Ne.symm hji), free_mono hf, hq, hfs, ?_⟩)⟩
          rw [Array.setIfInBounds_comm _ _ hji]
          exact h4
    · exact .inr (h2 j hj)
theorem Script.any (hsel : Region.noSelect ops = true) : ∀ (n : Nat) (S G : World → Prop) (listed : Array Bool) (a : Act), Closed S → Closed G → Down md ops listed → Script P md ops Q n S G listed a → ∀ w, S w → G w → wpAny P md ops Q n listed a w := by
  intro n
  induction n with
  | zero => intro S G listed a _ _ _ h w hS hG; exact ⟨h.1, h.2 w hS hG⟩
  | succ n ih =>
    intro S G listed a cS cG hdn h w hS hG
    refine ⟨fun hnil => ?_, fun j hj => ?_⟩
    · rcases h with ⟨_, h2⟩ | ⟨i, oi, c, hi, hr, _⟩ | ⟨h1, _⟩
      · exact h2 w hS hG
      · rw [hnil] at hr; cases hr
      · exact absurd hnil h1
    · obtain ⟨m, hm, h | h⟩ := Script.front hsel (n + 1) S G listed a j cS cG hdn h hj
      · obtain rfl : n = m := by omega
        obtain ⟨oj, c, hoj, _, _, hfx, hs⟩ := h
        exact hfx.wpOp hoj hS fun w' hA' => ih S G _ _ cS cG (hdn.set hj) hs w' (cS _ _ hS hA') (cG _ _ hG hA')
      · obtain rfl : n = m := by omega
        refine wpOp_mono (fun a' w' h' => ?_) (h w hS hG)
        obtain ⟨S', G', _, cS', cG', hS', hG', h4⟩ := h'
        exact ih S' G' _ _ cS' cG' (hdn.set hj) h4 w' hS' hG'
/-- **The beginning**: a region that draws its order, by a script. -/
theorem wp_region_script {id : Nat} {a : Act} {w : World} (hm : P.follows .mixedOrders = true) (hsel : Region.noSelect ops = true)
    (h : Script P .any ops Q ops.size (After w.drew) (fun _ => True) (Array.replicate ops.size false) a) : (Code.region id ops true).wp P Q a w :=
  wp_region_any hm (Script.any hsel _ _ _ _ _ (closed_after _) closed_true (down_none _) h _ (After.refl _) trivial)
/-- The same from predicates of one's own: what holds all the way, and what is told of the world at hand. -/
theorem wp_region_from {id : Nat} {a : Act} {w : World} (S G : World → Prop) (hm : P.follows .mixedOrders = true) (hsel : Region.noSelect ops = true) (cS : Closed S) (cG : Closed G) (hS : S w.drew) (hG : G w.drew)
    (h : Script P .any ops Q ops.size S G (Array.replicate ops.size false) a) : (Code.region id ops true).wp P Q a w :=
  wp_region_any hm (Script.any hsel _ _ _ _ _ cS cG (down_none _) h _ hS hG)
variable {S G : World → Prop}
theorem Script.sole {n i : Nat} {listed : Array Bool} {a : Act} (hr : Region.ready md ops listed = [i])
    (h : ∀ w, S w → G w → wpOp P ops Q i (fun a' w' => ∃ S' G', ((∀ x, S' x → S x) ∨ Behind md ops i) ∧ Closed S' ∧ Closed G' ∧ S' w' ∧ G' w' ∧ Script P md ops Q n S' G' (listed.setIfInBounds i true) a') a w) : Script P md ops Q (n + 1) S G listed a :=
  .inr (.inr ⟨by rw [hr]; simp, fun j hj => by
    rw [hr] at hj
    obtain rfl : j = i := by simpa using hj
    exact h⟩)
theorem Script.done {n : Nat} {listed : Array Bool} {a : Act} (hr : Region.ready md ops listed = []) (h : ∀ w, S w → G w → Q .normal a w) : Script P md ops Q n S G listed a := by
  cases n with
  | zero => exact ⟨hr, h⟩
  | succ n => exact .inl ⟨hr, h⟩
/-- An operation that yields its value in every world that meets S, and leaves it. -/
theorem Script.load {n i : Nat} {oi : Oper} {v : Value} {listed : Array Bool} {a : Act} (hi : ops[i]? = some oi) (hr : (Region.ready md ops listed).contains i = true) (hf : Region.free md ops listed i = true)
    (hQ : ∀ k a w, Q (.panic k) (a.put oi.dst v) w → Q (.panic k) a w)
    (hw : Region.wanted oi (yielded ops a.tmps) = true) (hy : ∀ w, S w → (execOp a.eval oi).run P w = .ok (.value v) w)
    (h : Script P md ops Q n S G (listed.setIfInBounds i true) (a.put oi.dst v)) : Script P md ops Q (n + 1) S G listed a :=
  .inr (.inl ⟨i, oi, v, hi, by simpa using hr, hf, hQ, .inl ⟨hw, fun w hA => by unfold Oper.wp; rw [hy w hA]; exact ⟨rfl, After.refl _⟩⟩, h⟩)
/-- An operation that is not wanted. -/
theorem Script.skip {n i : Nat} {oi : Oper} {listed : Array Bool} {a : Act} (hi : ops[i]? = some oi) (hr : (Region.ready md ops listed).contains i = true) (hf : Region.free md ops listed i = true)
    (hQ : ∀ k a w, Q (.panic k) (a.put oi.dst undef) w → Q (.panic k) a w)
    (hw : Region.wanted oi (yielded ops a.tmps) = false)
    (h : Script P md ops Q n S G (listed.setIfInBounds i true) (a.put oi.dst undef)) : Script P md ops Q (n + 1) S G listed a :=
  .inr (.inl ⟨i, oi, undef, hi, by simpa using hr, hf, hQ, .inr ⟨hw, rfl⟩, h⟩)
/-- A call (or whatever else) that comes to one value in every world that meets S. -/
theorem Script.call {n i : Nat} {oi : Oper} {v : Value} {listed : Array Bool} {a : Act} (hi : ops[i]? = some oi) (hr : (Region.ready md ops listed).contains i = true) (hf : Region.free md ops listed i = true)
    (hQ : ∀ k a w, Q (.panic k) (a.put oi.dst v) w → Q (.panic k) a w)
    (hw : Region.wanted oi (yielded ops a.tmps) = true)
    (hy : ∀ w, S w → ∀ K : Act → World → Prop, Shut (∀ w', After w w' → K (a.put oi.dst v) w') → oi.wp P a w K (fun _ _ _ => False))
    (h : Script P md ops Q n S G (listed.setIfInBounds i true) (a.put oi.dst v)) : Script P md ops Q (n + 1) S G listed a :=
  .inr (.inl ⟨i, oi, v, hi, by simpa using hr, hf, hQ, .inl ⟨hw, fun w hA => hy w hA _ (fun w' hA' => ⟨rfl, hA'⟩)⟩, h⟩)
/-- The one operation that may come up: whatever it comes to; the script goes on from the world that it leaves. -/
theorem Script.one {n i : Nat} {oi : Oper} {w0 : World} {listed : Array Bool} {a : Act} (hi : ops[i]? = some oi) (hr : Region.ready md ops listed = [i])
    (hw : Region.wanted oi (yielded ops a.tmps) = true)
    (hy : ∀ w, After w0 w → ∀ K : Act → World → Prop, Shut (∀ v w', After w w' → Script P md ops Q n (After w') (fun _ => True) (listed.setIfInBounds i true) (a.put oi.dst v) → K (a.put oi.dst v) w') → oi.wp P a w K Q) :
    Script P md ops Q (n + 1) (After w0) G listed a :=
  .sole hr fun w hA _ => by
    unfold wpOp
    simp only [hi, hw, if_true]
    exact .inl (hy w hA _ (fun v w' hA' hs => ⟨After w', fun _ => True, .inl fun x hx => (hA.trans hA').trans hx, closed_after _, closed_true, After.refl _, trivial, hs⟩))
/-- The one operation that may come up, S kept, G anew: an alloc, and the store behind it. -/
theorem Script.oneG {n i : Nat} {oi : Oper} {listed : Array Bool} {a : Act} (G' : Value → World → Prop) (hi : ops[i]? = some oi) (hr : Region.ready md ops listed = [i])
    (hw : Region.wanted oi (yielded ops a.tmps) = true) (cS : Closed S) (cG : ∀ v, Closed (G' v))
    (hy : ∀ w, S w → G w → ∀ K : Act → World → Prop, Shut (∀ v w', S w' → G' v w' → Script P md ops Q n S (G' v) (listed.setIfInBounds i true) (a.put oi.dst v) → K (a.put oi.dst v) w') → oi.wp P a w K Q) :
    Script P md ops Q (n + 1) S G listed a :=
  .sole hr fun w hA hG => by
    unfold wpOp
    simp only [hi, hw, if_true]
    exact .inl (hy w hA hG _ (fun v w' hS' hG' hs => ⟨S, G' v, .inl fun x hx => hx, cS, cG v, hS', hG', hs⟩))
/-- The one operation that may come up, behind all others but plain ones: it may turn what the others have read. -/
theorem Script.last {n i : Nat} {oi : Oper} {listed : Array Bool} {a : Act} (hi : ops[i]? = some oi) (hr : Region.ready md ops listed = [i])
    (hw : Region.wanted oi (yielded ops a.tmps) = true) (hb : behind md ops i = true)
    (hy : ∀ w, S w → G w → ∀ K : Act → World → Prop, Shut (∀ v w', Script P md ops Q n (After w') (fun _ => True) (listed.setIfInBounds i true) (a.put oi.dst v) → K (a.put oi.dst v) w') → oi.wp P a w K Q) :
    Script P md ops Q (n + 1) S G listed a :=
  .sole hr fun w hS hG => by
    unfold wpOp
    simp only [hi, hw, if_true]
    exact .inl (hy w hS hG _ (fun v w' hs => ⟨After w', fun _ => True, .inr (Behind.of hb), closed_after _, closed_true, After.refl _, trivial, hs⟩))
/-- Two operations that may come up, in either order: two calls that make memory. -/
theorem Script.two {n i j : Nat} {oi oj : Oper} {w0 : World} {listed : Array Bool} {a : Act} (hi : ops[i]? = some oi) (hj : ops[j]? = some oj) (hr : Region.ready md ops listed = [i, j])
    (hwi : Region.wanted oi (yielded ops a.tmps) = true) (hwj : Region.wanted oj (yielded ops a.tmps) = true)
    (hyi : ∀ w, After w0 w → ∀ K : Act → World → Prop, Shut (∀ v w', After w w' → Script P md ops Q n (After w') (fun _ => True) (listed.setIfInBounds i true) (a.put oi.dst v) → K (a.put oi.dst v) w') → oi.wp P a w K Q)
    (hyj : ∀ w, After w0 w → ∀ K : Act → World → Prop, Shut (∀ v w', After w w' → Script P md ops Q n (After w') (fun _ => True) (listed.setIfInBounds j true) (a.put oj.dst v) → K (a.put oj.dst v) w') → oj.wp P a w K Q) :
    Script P md ops Q (n + 1) (After w0) G listed a :=
  .inr (.inr ⟨by rw [hr]; simp, fun k hk w hA _ => by
    rw [hr] at hk
    have hk' : k = i ∨ k = j := by simpa using hk
    rcases hk' with rfl | rfl
    · unfold wpOp
      simp only [hi, hwi, if_true]
      exact .inl (hyi w hA _ (fun v w' hA' hs => ⟨After w', fun _ => True, .inl fun x hx => (hA.trans hA').trans hx, closed_after _, closed_true, After.refl _, trivial, hs⟩))
    · unfold wpOp
      simp only [hj, hwj, if_true]
      exact .inl (hyj w hA _ (fun v w' hA' hs => ⟨After w', fun _ => True, .inl fun x hx => (hA.trans hA').trans hx, closed_after _, closed_true, After.refl _, trivial, hs⟩))⟩)
end
end Go.Proofs.Ytgkmapemnlgldaa

namespace Go.Proofs.Ytgkmapemnlgldaa
/-- Bit k of z. -/
def bit (z k : Nat) : Bool := decide (z / 2 ^ k % 2 = 1)
/-- The indices of the bits of z below n, in ascending order. -/
def bitsOf (n z : Nat) : List Nat := (List.range n).filter (bit z)
theorem bitsOf_zero (z : Nat) : bitsOf 0 z = [] := rfl
theorem bitsOf_succ (n z : Nat) : bitsOf (n + 1) z = bitsOf n z ++ (if bit z n then [n] else []) := by
  unfold bitsOf
  rw [List.range_succ, List.filter_append]
  cases h : bit z n <;> simp [h]
theorem bitsOf_yes {n z : Nat} (h : bit z n = true) : bitsOf (n + 1) z = bitsOf n z ++ [n] := by rw [bitsOf_succ, h]; rfl
theorem bitsOf_no {n z : Nat} (h : bit z n = false) : bitsOf (n + 1) z = bitsOf n z := by rw [bitsOf_succ, h]; simp
theorem bit_high {z n k : Nat} (h : z < 2 ^ n) (hk : n ≤ k) : bit z k = false := by
  unfold bit
  rw [Nat.div_eq_of_lt (Nat.lt_of_lt_of_le h (Nat.pow_le_pow_right (by decide) hk))]
  simp
theorem bitsOf_more {n z : Nat} (h : z < 2 ^ n) : ∀ m, n ≤ m → bitsOf m z = bitsOf n z
  | 0, hm => by obtain rfl : n = 0 := by omega
                rfl
  | m + 1, hm => by
    by_cases e : n = m + 1
    · rw [e]
    · rw [bitsOf_no (bit_high h (by omega)), bitsOf_more h m (by omega)]
theorem mem_bitsOf {n z k : Nat} : k ∈ bitsOf n z ↔ k < n ∧ bit z k = true := by simp [bitsOf]
theorem bitsOf_le (n z : Nat) : (bitsOf n z).length ≤ n := by
  have := List.length_filter_le (bit z) (List.range n)
  simpa [bitsOf] using this
theorem bitsOf_up (n z : Nat) : (bitsOf n z).Pairwise (· < ·) := List.Pairwise.filter _ List.pairwise_lt_range
/-- The numbers of a list as powers of two, summed. -/
def powSum (l : List Nat) : Nat := (l.map fun k => 2 ^ k).foldr (· + ·) 0
theorem powSum_append (a b : List Nat) : powSum (a ++ b) = powSum a + powSum b := by
  induction a with
  | nil => simp [powSum]
  | cons x l ih => simp only [powSum, List.cons_append, List.map_cons, List.foldr_cons] at *; omega
theorem powSum_bitsOf (z : Nat) : ∀ n, powSum (bitsOf n z) = z % 2 ^ n
  | 0 => by simp [bitsOf, powSum, Nat.mod_one]
  | n + 1 => by
    have e : z % 2 ^ (n + 1) = z % 2 ^ n + 2 ^ n * (z / 2 ^ n % 2) := by rw [Nat.pow_succ, Nat.mod_mul]
    cases h : bit z n
    · rw [bitsOf_no h, powSum_bitsOf z n, e]
      have : z / 2 ^ n % 2 = 0 := by unfold bit at h; simp at h; omega
      rw [this]; simp
    · rw [bitsOf_yes h, powSum_append, powSum_bitsOf z n, e]
      have : z / 2 ^ n % 2 = 1 := by unfold bit at h; simpa using h
      rw [this]; simp [powSum]
theorem powSum_all {z n : Nat} (h : z < 2 ^ n) : powSum (bitsOf n z) = z := by rw [powSum_bitsOf, Nat.mod_eq_of_lt h]
/-- How many of the n lowest bits are set. -/
def pc : Nat → Nat → Nat
  | 0, _ => 0
  | n + 1, x => x % 2 + pc n (x / 2)
theorem pc_snoc : ∀ n x, pc (n + 1) x = pc n x + x / 2 ^ n % 2
  | 0, x => by simp [pc]
  | n + 1, x => by
    have h := pc_snoc n (x / 2)
    have e : x / 2 / 2 ^ n = x / 2 ^ (n + 1) := by rw [Nat.div_div_eq_div_mul, Nat.pow_succ, Nat.mul_comm]
    rw [e] at h
    show x % 2 + pc (n + 1) (x / 2) = (x % 2 + pc n (x / 2)) + _
    omega
theorem bitsOf_length (z : Nat) : ∀ n, (bitsOf n z).length = pc n z
  | 0 => rfl
  | n + 1 => by
    rw [pc_snoc, ← bitsOf_length z n]
    cases h : bit z n
    · rw [bitsOf_no h]; unfold bit at h; simp at h; omega
    · rw [bitsOf_yes h]; unfold bit at h; simp at h; simp [h]
theorem pc_le (n x : Nat) : pc n x ≤ n := by rw [← bitsOf_length]; exact bitsOf_le n x
theorem pc_add : ∀ a b x, pc (a + b) x = pc a x + pc b (x / 2 ^ a)
  | 0, b, x => by simp [pc]
  | a + 1, b, x => by
    have h := pc_add a b (x / 2)
    have e : x / 2 / 2 ^ a = x / 2 ^ (a + 1) := by rw [Nat.div_div_eq_div_mul, Nat.pow_succ, Nat.mul_comm]
    rw [e] at h
    rw [show a + 1 + b = (a + b) + 1 by omega]
    show x % 2 + pc (a + b) (x / 2) = (x % 2 + pc a (x / 2)) + _
    omega
theorem pc_zero : ∀ n, pc n 0 = 0
  | 0 => rfl
  | n + 1 => by show 0 % 2 + pc n (0 / 2) = 0; rw [show 0 / 2 = 0 from rfl, pc_zero n]
theorem bit_ones {n k : Nat} (h : k < n) : bit (2 ^ n - 1) k = true := by
  have := Nat.testBit_two_pow_sub_one n k
  unfold bit
  rw [← Nat.testBit_eq_decide_div_mod_eq, this]; simp [h]
theorem bitsOf_ones (n : Nat) : bitsOf n (2 ^ n - 1) = List.range n := by
  unfold bitsOf
  apply List.filter_eq_self.2
  intro k hk
  exact bit_ones (by simpa using hk)
theorem pc_ones (n : Nat) : pc n (2 ^ n - 1) = n := by rw [← bitsOf_length, bitsOf_ones]; simp
theorem pc_more {n z : Nat} (h : z < 2 ^ n) (m : Nat) (hm : n ≤ m) : pc m z = pc n z := by rw [← bitsOf_length, ← bitsOf_length, bitsOf_more h m hm]

/-! bits.OnesCount64's sums, byte by byte -/
theorem and_split (b y c m : Nat) (hb : b < 256) (hc : c < 256) : (b + 256 * y) &&& (c + 256 * m) = (b &&& c) + 256 * (y &&& m) := by
  have h1 : ((b + 256 * y) &&& (c + 256 * m)) % 2 ^ 8 = b &&& c := by
    rw [Nat.and_mod_two_pow]
    congr 1 <;> omega
  have h2 : ((b + 256 * y) &&& (c + 256 * m)) / 2 ^ 8 = y &&& m := by
    rw [Nat.and_div_two_pow]
    congr 1 <;> omega
  have := Nat.div_add_mod ((b + 256 * y) &&& (c + 256 * m)) (2 ^ 8)
  omega
def M (c : Nat) : Nat → Nat
  | 0 => 0
  | n + 1 => c + 256 * M c n
def S1 (n x : Nat) : Nat := (x / 2 &&& M 85 n) + (x &&& M 85 n)
def S2 (n x : Nat) : Nat := (x / 4 &&& M 51 n) + (x &&& M 51 n)
def S3 (n x : Nat) : Nat := (x / 16 + x) &&& M 15 n
def P1 (b : Nat) : Nat := (b / 2 &&& 85) + (b &&& 85)
def P2 (b : Nat) : Nat := (b / 4 &&& 51) + (b &&& 51)
theorem m1 : ∀ b : Fin 256, ∀ c : Fin 2, (b.val / 2 + 128 * c.val) &&& 85 = b.val / 2 &&& 85 := by decide +kernel
theorem m2 : ∀ b : Fin 256, ∀ c : Fin 4, (b.val / 4 + 64 * c.val) &&& 51 = b.val / 4 &&& 51 := by decide +kernel
theorem p1 : ∀ b : Fin 256, P1 b.val < 256 ∧ P2 (P1 b.val) < 69 ∧ P2 (P1 b.val) % 16 ≤ 4 ∧ (P2 (P1 b.val) / 16 + P2 (P1 b.val)) % 16 = pc 8 b.val := by decide +kernel
theorem S1_step (n b y : Nat) (hb : b < 256) : S1 (n + 1) (b + 256 * y) = P1 b + 256 * S1 n y := by
  unfold S1 P1
  have e : (b + 256 * y) / 2 = (b / 2 + 128 * (y % 2)) + 256 * (y / 2) := by omega
  have hm := m1 ⟨b, hb⟩ ⟨y % 2, by omega⟩
  simp only at hm
  rw [e, M, and_split _ _ _ _ (by omega) (by decide), and_split _ _ _ _ hb (by decide), hm]
  show _ + 256 * _ + (_ + 256 * _) = _
  omega
theorem S2_step (n b y : Nat) (hb : b < 256) : S2 (n + 1) (b + 256 * y) = P2 b + 256 * S2 n y := by
  unfold S2 P2
  have e : (b + 256 * y) / 4 = (b / 4 + 64 * (y % 4)) + 256 * (y / 4) := by omega
  have hm := m2 ⟨b, hb⟩ ⟨y % 4, by omega⟩
  simp only at hm
  rw [e, M, and_split _ _ _ _ (by omega) (by decide), and_split _ _ _ _ hb (by decide), hm]
  show _ + 256 * _ + (_ + 256 * _) = _
  omega
theorem S3_step (n a v : Nat) (ha : a < 69) (hv : v % 16 ≤ 4) : S3 (n + 1) (a + 256 * v) = (a / 16 + a) % 16 + 256 * S3 n v := by
  unfold S3
  have e : (a + 256 * v) / 16 + (a + 256 * v) = (a / 16 + 16 * (v % 16) + a) + 256 * (v / 16 + v) := by omega
  rw [e, M, and_split _ _ _ _ (by omega) (by decide), show (15 : Nat) = 2 ^ 4 - 1 from rfl, Nat.and_two_pow_sub_one_eq_mod]
  omega
def low (n x : Nat) : Nat := S2 n (S1 n x)
theorem low_step (n b y : Nat) (hb : b < 256) : low (n + 1) (b + 256 * y) = P2 (P1 b) + 256 * low n y := by
  unfold low
  rw [S1_step _ _ _ hb, S2_step _ _ _ (p1 ⟨b, hb⟩).1]
theorem low_mod : ∀ n x, low n x % 16 ≤ 4
  | 0, x => by simp [low, S1, S2, M]
  | n + 1, x => by
    rw [show x = x % 256 + 256 * (x / 256) by omega, low_step _ _ _ (by omega)]
    have := (p1 ⟨x % 256, by omega⟩).2.2.1
    simp only at this
    omega
/-- The counts of the bytes, byte by byte. -/
def cnt : Nat → Nat → Nat
  | 0, _ => 0
  | n + 1, x => pc 8 (x % 256) + 256 * cnt n (x / 256)
theorem S3_low : ∀ n x, S3 n (low n x) = cnt n x
  | 0, x => by simp [S3, M, cnt]
  | n + 1, x => by
    have hx : x = x % 256 + 256 * (x / 256) := by omega
    have hp := p1 ⟨x % 256, by omega⟩
    simp only at hp
    conv => lhs; rw [hx]
    rw [low_step _ _ _ (by omega), S3_step _ _ _ hp.2.1 (low_mod _ _), hp.2.2.2, S3_low n (x / 256)]
    rfl
theorem pc8_mod (x : Nat) : pc 8 (x % 256) = pc 8 x := by
  simp only [pc]
  omega
theorem cnt8 (x : Nat) : ∃ p0 p1 p2 p3 p4 p5 p6 p7 : Nat, p0 ≤ 8 ∧ p1 ≤ 8 ∧ p2 ≤ 8 ∧ p3 ≤ 8 ∧ p4 ≤ 8 ∧ p5 ≤ 8 ∧ p6 ≤ 8 ∧ p7 ≤ 8 ∧
    cnt 8 x = p0 + 256 * (p1 + 256 * (p2 + 256 * (p3 + 256 * (p4 + 256 * (p5 + 256 * (p6 + 256 * p7)))))) ∧ pc 64 x = p0 + p1 + p2 + p3 + p4 + p5 + p6 + p7 := by
  refine ⟨_, _, _, _, _, _, _, _, pc_le 8 (x % 256), pc_le 8 (x / 256 % 256), pc_le 8 (x / 256 / 256 % 256), pc_le 8 (x / 256 / 256 / 256 % 256), pc_le 8 (x / 256 / 256 / 256 / 256 % 256), pc_le 8 (x / 256 / 256 / 256 / 256 / 256 % 256), pc_le 8 (x / 256 / 256 / 256 / 256 / 256 / 256 % 256), pc_le 8 (x / 256 / 256 / 256 / 256 / 256 / 256 / 256 % 256), by simp only [cnt, Nat.mul_zero, Nat.add_zero], ?_⟩
  simp only [pc8_mod]
  rw [show 64 = 8 + (8 + (8 + (8 + (8 + (8 + (8 + (8 + 0))))))) from rfl]
  simp only [pc_add, show (2 : Nat) ^ 8 = 256 from rfl]
  simp only [show ∀ y, pc 0 y = 0 from fun _ => rfl, Nat.add_zero, Nat.add_assoc]
theorem low_lt (x : Nat) (_hx : x < 18446744073709551616) : S1 8 x < 18446744073709551616 ∧ low 8 x ≤ 4919131752989213764 := by
  have h1 : ∀ c n z, z &&& M c n ≤ M c n := fun c n z => Nat.and_le_right
  have e1 : M 85 8 = 6148914691236517205 := by decide
  have a1 := h1 85 8 (x / 2)
  have a2 := h1 85 8 x
  refine ⟨by unfold S1; omega, ?_⟩
  have key : ∀ n x, low n x ≤ M 68 n := by
    intro n
    induction n with
    | zero => intro x; simp [low, S1, S2, M]
    | succ n ih =>
      intro x
      rw [show x = x % 256 + 256 * (x / 256) by omega, low_step _ _ _ (by omega), M]
      have := (p1 ⟨x % 256, by omega⟩).2.1
      simp only at this
      have := ih (x / 256)
      omega
  have := key 8 x
  have e2 : M 68 8 = 4919131752989213764 := by decide
  omega
theorem div_of (a R n : Nat) (h : a < n) : (a + n * R) / n = R := by
  rw [Nat.add_mul_div_left _ _ (by omega), Nat.div_eq_of_lt h, Nat.zero_add]
theorem fin_sum (x : Nat) (X : Nat) (h : X = cnt 8 x) :
    (((X + X / 256) % 18446744073709551616 + (X + X / 256) % 18446744073709551616 / 65536) % 18446744073709551616 + ((X + X / 256) % 18446744073709551616 + (X + X / 256) % 18446744073709551616 / 65536) % 18446744073709551616 / 4294967296) % 18446744073709551616 % 128 = pc 64 x := by
  obtain ⟨p0, p1, p2, p3, p4, p5, p6, p7, h0, h1, h2, h3, h4, h5, h6, h7, hX, hp⟩ := cnt8 x
  rw [← h] at hX
  rw [hp]
  clear h hp
  have a1 : X / 256 = p1 + 256 * (p2 + 256 * (p3 + 256 * (p4 + 256 * (p5 + 256 * (p6 + 256 * p7))))) := by rw [hX]; exact div_of _ _ _ (by omega)
  have b1 : (X + X / 256) % 18446744073709551616 = (p0 + p1) + 256 * ((p1 + p2) + 256 * ((p2 + p3) + 256 * ((p3 + p4) + 256 * ((p4 + p5) + 256 * ((p5 + p6) + 256 * ((p6 + p7) + 256 * p7)))))) := by
    rw [a1, hX, Nat.mod_eq_of_lt (by omega)]; omega
  rw [b1]
  have c1 : ((p0 + p1) + 256 * ((p1 + p2) + 256 * ((p2 + p3) + 256 * ((p3 + p4) + 256 * ((p4 + p5) + 256 * ((p5 + p6) + 256 * ((p6 + p7) + 256 * p7))))))) / 65536 = (p2 + p3) + 256 * ((p3 + p4) + 256 * ((p4 + p5) + 256 * ((p5 + p6) + 256 * ((p6 + p7) + 256 * p7)))) := by
    rw [show (p0 + p1) + 256 * ((p1 + p2) + 256 * ((p2 + p3) + 256 * ((p3 + p4) + 256 * ((p4 + p5) + 256 * ((p5 + p6) + 256 * ((p6 + p7) + 256 * p7)))))) = ((p0 + p1) + 256 * (p1 + p2)) + 65536 * ((p2 + p3) + 256 * ((p3 + p4) + 256 * ((p4 + p5) + 256 * ((p5 + p6) + 256 * ((p6 + p7) + 256 * p7))))) by omega]
    exact div_of _ _ _ (by omega)
  rw [c1]
  have d1 : ((p0 + p1) + 256 * ((p1 + p2) + 256 * ((p2 + p3) + 256 * ((p3 + p4) + 256 * ((p4 + p5) + 256 * ((p5 + p6) + 256 * ((p6 + p7) + 256 * p7)))))) + ((p2 + p3) + 256 * ((p3 + p4) + 256 * ((p4 + p5) + 256 * ((p5 + p6) + 256 * ((p6 + p7) + 256 * p7)))))) % 18446744073709551616
      = ((p0 + p1 + p2 + p3) + 256 * ((p1 + p2 + p3 + p4) + 256 * ((p2 + p3 + p4 + p5) + 256 * (p3 + p4 + p5 + p6)))) + 4294967296 * ((p4 + p5 + p6 + p7) + 256 * ((p5 + p6 + p7) + 256 * ((p6 + p7) + 256 * p7))) := by
    rw [Nat.mod_eq_of_lt (by omega)]; omega
  rw [d1]
  generalize hA : (p0 + p1 + p2 + p3) + 256 * ((p1 + p2 + p3 + p4) + 256 * ((p2 + p3 + p4 + p5) + 256 * (p3 + p4 + p5 + p6))) = A
  generalize hB : (p4 + p5 + p6 + p7) + 256 * ((p5 + p6 + p7) + 256 * ((p6 + p7) + 256 * p7)) = B
  have hA1 : A < 4294967296 := by rw [← hA]; clear hA hB hX a1 b1 c1 d1; omega
  have hB1 : B < 4294967295 := by rw [← hB]; clear hA hB hX a1 b1 c1 d1 hA1; omega
  clear hX a1 b1 c1 d1
  have e0 : (A + 4294967296 * B) / 4294967296 = B := by clear hA hB; omega
  rw [e0]
  have hlt : A + 4294967296 * B + B < 18446744073709551616 := by clear hA hB e0; omega
  rw [Nat.mod_eq_of_lt hlt]
  clear e0 hlt hA1 hB1
  have e : (A + 4294967296 * B + B) = (p0 + p1 + p2 + p3 + p4 + p5 + p6 + p7) + 128 * (2 * ((p1 + p2 + p3 + p4) + 256 * ((p2 + p3 + p4 + p5) + 256 * (p3 + p4 + p5 + p6))) + 33554432 * B + 2 * ((p5 + p6 + p7) + 256 * ((p6 + p7) + 256 * p7))) := by
    generalize p0 + p1 + p2 + p3 = a at *
    omega
  rw [e, Nat.add_mul_mod_self_left]
  exact Nat.mod_eq_of_lt (by clear e hA hB; omega)
end Go.Proofs.Ytgkmapemnlgldaa

namespace Go.Proofs.Ytgkmapemnlgldaa
open Go.RowKit
/-- A contract that leaves the world alone, inside a region that draws (the world once drawn, or drawn again). -/
theorem quiet1 {P : Program} {f : FuncId} {args : Array Value} {w : World} {n : Nat} {v : Value} (h : ∀ W : World, Calls P f args W fun e w' => e = .returned v ∧ W = w') : Calls P f args (w.drewN n) fun e w' => e = .returned v ∧ ∃ m, w' = w.drewN m :=
  (h _).mono fun _ _ hh => ⟨hh.1, n, hh.2.symm⟩
theorem quiet2 {P : Program} {f : FuncId} {args : Array Value} {w : World} {a n : Nat} {v : Value} (h : ∀ W : World, Calls P f args W fun e w' => e = .returned v ∧ W = w') : Calls P f args (w.drewN (a + n)) fun e w' => e = .returned v ∧ ∃ m, w' = w.drewN (a + m) :=
  (h _).mono fun _ _ hh => ⟨hh.1, n, hh.2.symm⟩
theorem below_drewN {w w' : World} {n : Nat} (q : Nat) (h : Below n w w') : Below n w (w'.drewN q) := ⟨h.1, h.2, h.3, h.4, h.5⟩
def inB (n a b : Int) : Bool := decide (a ≤ n) && decide (n ≤ b)
def sideB (n : Int) : Bool := decide (1 ≤ n) && decide (n ≤ 7)
def okB (W H Z : Int) : Bool := sideB W && sideB H && decide (1 ≤ Z) && decide (Z ≤ 2 ^ (W * H).toNat - 1)
set_option maxRecDepth 100000 in
theorem specIn (n a b : Int) (w : World) : Calls Try.prog 47 #[.int .i64 n, .int .i64 a, .int .i64 b] w fun e w' => e = .returned (.bool (inB n a b)) ∧ w = w' := by
  by_cases h1 : a ≤ n <;> by_cases h2 : n ≤ b
  all_goals
    go_enter Try.func47, Try.ntmps47
    go_wp2
    go_ret
    refine ⟨ret_bool ?_, rfl⟩
    simp [inB, h1, h2]
set_option maxRecDepth 100000 in
theorem implSide (n : Int) (w : World) : Calls Try.prog 76 #[.int .i64 n] w fun e w' => e = .returned (.bool (sideB n)) ∧ w = w' := by
  by_cases h1 : 1 ≤ n <;> by_cases h2 : n ≤ 7
  all_goals
    go_enter Try.func76, Try.ntmps76
    go_wp2
    go_ret
    refine ⟨ret_bool ?_, rfl⟩
    simp [sideB, h1, h2]
/-- What a board of valid sides is told: the number of its places, and the power of two beyond its holes. -/
theorem sides {W H : Int} (w1 : sideB W = true) (h1 : sideB H = true) : ∃ (N : Nat), W * H = (N : Int) ∧ 1 ≤ N ∧ N ≤ 49 ∧ 1 ≤ W ∧ W ≤ 7 ∧ 1 ≤ H ∧ H ≤ 7 := by
  simp [sideB] at w1 h1
  obtain ⟨a, rfl⟩ := Int.eq_ofNat_of_zero_le (show 0 ≤ W by omega)
  obtain ⟨b, rfl⟩ := Int.eq_ofNat_of_zero_le (show 0 ≤ H by omega)
  have h2 : a * b ≤ 7 * 7 := Nat.mul_le_mul (by omega) (by omega)
  have h3 : 1 * 1 ≤ a * b := Nat.mul_le_mul (by omega) (by omega)
  exact ⟨a * b, by simp, by omega, by omega, by omega, by omega, by omega, by omega⟩
theorem pow_le49 {N : Nat} (h : N ≤ 49) : (1 : Int) ≤ 2 ^ N ∧ (2 : Int) ^ N ≤ 562949953421312 := by
  have h1 : 2 ^ N ≤ 2 ^ 49 := Nat.pow_le_pow_right (by decide) h
  have h2 : 0 < 2 ^ N := Nat.two_pow_pos N
  have e : ((2 : Int) ^ N) = ((2 ^ N : Nat) : Int) := by simp
  rw [e]
  omega
set_option maxRecDepth 100000 in
theorem implSize (W H Z : Int) (w : World) (N : Nat) (h : W * H = N) (hN : N ≤ 49) : Calls Try.prog 62 #[.agg #[.int .i64 W, .int .i64 H, .int .i64 Z]] w fun e w' => e = .returned (.int .i64 N) ∧ Below w.heap.size w w' := by
  go_enter Try.func62, Try.ntmps62
  go_wp2
  go_ret
  exact ⟨rfl, (Below.refl _ _).alloc (Nat.le_refl _) _⟩
set_option maxRecDepth 100000 in
theorem implAll (W H Z : Int) (w : World) (N : Nat) (h : W * H = N) (hN : N ≤ 49) : Calls Try.prog 77 #[.agg #[.int .i64 W, .int .i64 H, .int .i64 Z]] w fun e w' => e = .returned (.int .i64 (2 ^ N - 1)) ∧ Below w.heap.size w w' := by
  have HS := Lib.hid (fun w => implSize W H Z w N h hN)
  clear h
  obtain ⟨p1, p2⟩ := pow_le49 hN
  go_enter Try.func77, Try.ntmps77
  go_wp2_with fail
  refine (HS.out _).mono ?_
  rintro e w1 ⟨rfl, hb1⟩
  go_wp2_with fail
  go_ret
  exact ⟨rfl, ((Below.refl _ _).alloc (Nat.le_refl _) _).trans (hb1.mono (by simp))⟩
theorem okB_eq {W H Z : Int} {N : Nat} (h1 : sideB W = true) (h2 : sideB H = true) (h : W * H = N) : okB W H Z = inB Z 1 (2 ^ N - 1) := by
  simp [okB, inB, h1, h2, h]
theorem okB_no1 {W H Z : Int} (h1 : sideB W = false) : okB W H Z = false := by simp [okB, h1]
theorem okB_no2 {W H Z : Int} (h1 : sideB H = false) : okB W H Z = false := by simp [okB, h1]
set_option maxRecDepth 100000 in
theorem specOk (W H Z : Int) (w : World) : Calls Try.prog 58 #[.agg #[.int .i64 W, .int .i64 H, .int .i64 Z]] w fun e w' => e = .returned (.bool (okB W H Z)) ∧ Below w.heap.size w w' := by
  have e7 : ∀ n, inB n 1 7 = sideB n := fun _ => rfl
  cases h1 : sideB W
  · go_enter Try.func58, Try.ntmps58
    go_wp2_with (go_at_call 47; (with_reducible refine (specIn _ _ _ _).mono ?_); rintro e w' ⟨rfl, rfl⟩; rw [e7])
    go_ret
    exact ⟨ret_bool (okB_no1 h1).symm, (Below.refl _ _).alloc (Nat.le_refl _) _⟩
  · cases h2 : sideB H
    · go_enter Try.func58, Try.ntmps58
      go_wp2_with (go_at_call 47; (with_reducible refine (specIn _ _ _ _).mono ?_); rintro e w' ⟨rfl, rfl⟩; rw [e7])
      go_ret
      exact ⟨ret_bool (okB_no2 h2).symm, (Below.refl _ _).alloc (Nat.le_refl _) _⟩
    · obtain ⟨N, hN, n0, n1, -, -, -, -⟩ := sides h1 h2
      obtain ⟨p1, p2⟩ := pow_le49 n1
      have HE := Lib.hid (okB_eq (Z := Z) h1 h2 hN)
      go_enter Try.func58, Try.ntmps58
      go_wp2_with fail
      refine (specIn _ _ _ _).mono ?_
      rintro e w' ⟨rfl, rfl⟩
      rw [e7]
      go_wp2_with fail
      refine (specIn _ _ _ _).mono ?_
      rintro e w' ⟨rfl, rfl⟩
      rw [e7]
      go_wp2_with fail
      go_quiet ((go_at_call 47; exact quiet1 (specIn _ _ _)))
      go_wp2_with fail
      go_ret
      exact ⟨ret_bool HE.out.symm, below_drewN _ ((Below.refl _ _).alloc (Nat.le_refl _) _)⟩
set_option maxRecDepth 100000 in
theorem implOk (W H Z : Int) (w : World) : Calls Try.prog 61 #[.agg #[.int .i64 W, .int .i64 H, .int .i64 Z]] w fun e w' => e = .returned (.bool (okB W H Z)) ∧ Below w.heap.size w w' := by
  cases h1 : sideB W
  · go_enter Try.func61, Try.ntmps61
    go_wp2_with fail
    go_quiet ((go_at_call 76; exact quiet1 (implSide _)))
    go_wp2_with fail
    go_ret
    exact ⟨ret_bool (okB_no1 h1).symm, below_drewN _ ((Below.refl _ _).alloc (Nat.le_refl _) _)⟩
  · cases h2 : sideB H
    · go_enter Try.func61, Try.ntmps61
      go_wp2_with fail
      go_quiet ((go_at_call 76; exact quiet1 (implSide _)))
      go_wp2_with fail
      go_ret
      exact ⟨ret_bool (okB_no2 h2).symm, below_drewN _ ((Below.refl _ _).alloc (Nat.le_refl _) _)⟩
    · obtain ⟨N, hN, n0, n1, -, -, -, -⟩ := sides h1 h2
      have HE := Lib.hid (okB_eq (Z := Z) h1 h2 hN)
      have HA := Lib.hid (fun w => implAll W H Z w N hN n1)
      clear hN
      by_cases hz : 1 ≤ Z
      · go_enter Try.func61, Try.ntmps61
        go_wp2_with fail
        have hb0 : Below w.heap.size w (w.alloc (Obj.cells #[Value.int IntKind.i64 W, Value.int IntKind.i64 H, Value.int IntKind.i64 Z] 25)) := (Below.refl _ _).alloc (Nat.le_refl _) _
        have c0 : (w.alloc (Obj.cells #[Value.int IntKind.i64 W, Value.int IntKind.i64 H, Value.int IntKind.i64 Z] 25)).cell? ⟨w.heap.size, 0, none⟩ = some (.int .i64 W) := by go_simp
        have c1 : (w.alloc (Obj.cells #[Value.int IntKind.i64 W, Value.int IntKind.i64 H, Value.int IntKind.i64 Z] 25)).cell? ⟨w.heap.size, 1, none⟩ = some (.int .i64 H) := by go_simp
        have c2 : (w.alloc (Obj.cells #[Value.int IntKind.i64 W, Value.int IntKind.i64 H, Value.int IntKind.i64 Z] 25)).cell? ⟨w.heap.size, 2, none⟩ = some (.int .i64 Z) := by go_simp
        have hs0 : w.heap.size < (w.alloc (Obj.cells #[Value.int IntKind.i64 W, Value.int IntKind.i64 H, Value.int IntKind.i64 Z] 25)).heap.size := by simp
        generalize w.alloc (Obj.cells #[Value.int IntKind.i64 W, Value.int IntKind.i64 H, Value.int IntKind.i64 Z] 25) = W1 at *
        go_region_held3 (fun w' => w'.cell? ⟨w.heap.size, 0, none⟩ = some (.int .i64 W) ∧ w'.cell? ⟨w.heap.size, 1, none⟩ = some (.int .i64 H) ∧ w'.cell? ⟨w.heap.size, 2, none⟩ = some (.int .i64 Z) ∧ Below w.heap.size w w') (first | exact ⟨c0, c1, c2, hb0.drew⟩ | exact ⟨(hb1.cell (p := ⟨w.heap.size, 0, none⟩) hs0).trans c0, (hb1.cell (p := ⟨w.heap.size, 1, none⟩) hs0).trans c1, (hb1.cell (p := ⟨w.heap.size, 2, none⟩) hs0).trans c2, hb0.drew.trans (hb1.mono (Nat.le_of_lt hs0))⟩) (first | (go_at_call 76; (refine (implSide _ _).mono ?_); rintro e w' ⟨rfl, rfl⟩) | (go_at_call 77; refine (HA.out _).mono ?_; rintro e w1 ⟨rfl, hb1⟩) | fail)
        all_goals
          rename_i hh
          have hh := Lib.hid hh.2.2.2
          go_wp2_with fail
          go_ret
          refine ⟨ret_bool (HE.out.trans ?_).symm, hh.out⟩
          simp [inB, hz]
      · go_enter Try.func61, Try.ntmps61
        go_wp2_with fail
        have hzz : decide (1 ≤ Z) = false := by simpa using hz
        go_quiet ((go_at_call 76; exact quiet1 (implSide _)))
        go_wp2_with fail
        go_ret
        refine ⟨ret_bool (HE.out.trans ?_).symm, below_drewN _ ((Below.refl _ _).alloc (Nat.le_refl _) _)⟩
        simp [inB, hzz]
end Go.Proofs.Ytgkmapemnlgldaa

namespace Go.Proofs.Ytgkmapemnlgldaa
open Go.RowKit
theorem hand1 (n : Int) : bits .and .i64 n 1 = n % 2 := by
  have h1 : (BitVec.ofInt 64 1).toNat = 2 ^ 1 - 1 := by decide
  have key : (BitVec.ofInt 64 n &&& BitVec.ofInt 64 1).toNat = (n % ((2 ^ 64 : Nat) : Int)).toNat % 2 ^ 1 := by
    rw [BitVec.toNat_and, BitVec.toNat_ofInt, h1, Nat.and_two_pow_sub_one_eq_mod]
  show IntKind.i64.wrap ((BitVec.ofInt 64 n &&& BitVec.ofInt 64 1).toNat : Nat) = n % 2
  rw [key, IntKind.wrap_i64]
  omega
theorem bit_int (z k : Nat) : ((z : Int) / 2 ^ k % 2 == 1) = bit z k := by
  have e : ((z : Int) / 2 ^ k % 2) = ((z / 2 ^ k % 2 : Nat) : Int) := by simp
  rw [e, Bool.eq_iff_iff]
  simp [bit]
  omega
theorem bit_int2 (z k : Nat) : decide ((z : Int) / 2 ^ k % 2 = 1) = bit z k := by
  have e : ((z : Int) / 2 ^ k % 2) = ((z / 2 ^ k % 2 : Nat) : Int) := by simp
  rw [e, Bool.eq_iff_iff]
  simp [bit]
  omega
def Ints (xs : List Nat) : List Value := xs.map fun (k : Nat) => Value.int .i64 (k : Int)
/-- It returns a list of indices in new memory. -/
def OwnInts (xs : List Nat) (w : World) (e : Ending) (w' : World) : Prop :=
  ∃ v, e = .returned v ∧ w'.ownsRow w.heap.size 3 1 v xs.length (Ints xs) ∧ Below w.heap.size w w'
theorem Ints_snoc (xs : List Nat) (k : Nat) : Ints (xs ++ [k]) = Ints xs ++ [Value.int .i64 (k : Int)] := by simp [Ints]
theorem own_base {w : World} {b b' : Nat} {e : TypeId} {size : Nat} {v : Value} {n : Nat} {xs : List Value} (h : w.ownsRow b e size v n xs) (hb : b' ≤ b) : w.ownsRow b' e size v n xs := by
  refine ⟨h.1, ?_⟩
  rcases h.2 with h | ⟨g, cap, cur, hv, hg, rest⟩
  · exact .inl h
  · exact .inr ⟨g, cap, cur, hv, Nat.le_trans hb hg, rest⟩
set_option maxHeartbeats 1000000 in
set_option maxRecDepth 100000 in
theorem specList (z : Nat) (w : World) : Calls Try.prog 33 #[.int .i64 z] w (OwnInts (bitsOf 49 z) w) := by
  have hand := hand1
  obtain ⟨i0, hi, hz0, hz1, hz2⟩ : ∃ i, Try.prog.info? 3 = some i ∧ i.zero = some (.int .i64 0) ∧ i.size = 1 ∧ i.bytes = 8 := ⟨_, by rfl, by rfl, by rfl, by rfl⟩
  go_enter Try.func33, Try.ntmps33
  go_wp2_with fail
  have hA : Hid ((w.alloc (.cells #[] 3)).ownsRow w.heap.size 3 1 (.slice (some ⟨w.heap.size, 0, none⟩) 0 0) 0 []) := World.ownsRow_made w #[] 0 (Nat.le_refl _) (by unfold maxLen; omega) rfl
  have hB : Below w.heap.size w (w.alloc (.cells #[] 3)) := (Below.refl _ _).alloc (Nat.le_refl _) _
  generalize w.alloc (.cells #[] 3) = W1 at *
  go_loopw [3, 4] (fun s i wr => ∃ (k : Nat) (v : Value), k ≤ 49 ∧ i = .int .i64 k ∧ s = v ∧ Hid (wr.ownsRow w.heap.size 3 1 v (bitsOf k z).length (Ints (bitsOf k z))) ∧ Below w.heap.size w wr) (fun _ i _ => 49 - (intOf i).toNat)
  case atStart => exact ⟨0, _, by omega, rfl, rfl, hA, hB⟩
  case round =>
    obtain ⟨k, v, hk, rfl, rfl, ho, hb⟩ := hrel
    by_cases hlt : k < 49
    · cases hbit : bit z k
      · have hb1 : ((z : Int) / 2 ^ k % 2 == 1) = false := by rw [bit_int]; exact hbit
        have hl := Lib.hid (bitsOf_no hbit)
        clear hbit
        go_wp2_with fail
        go_roundw
        case rel => exact ⟨k + 1, _, by omega, by go_num, rfl, by unfold Hid; rw [hl.out]; exact ho.out, hb⟩
        case measure => simp [intOf]; omega
      · have hb1 : ((z : Int) / 2 ^ k % 2 == 1) = true := by rw [bit_int]; exact hbit
        have hl := Lib.hid (bitsOf_yes hbit)
        have hln : Hid ((bitsOf k z).length ≤ 1000000000) := by unfold Hid; have := bitsOf_le k z; omega
        have hbz := hb.size
        clear hbit
        go_wp2_with (at_builtin; refine wpList_append_one rfl (.tmp 15) (.tmp 17) 30 rfl w.heap.size 3 i0 (.int .i64 0) 8 Try.underlying30 hi hz0 hz1 hz2 rfl (by decide) _ _ _ rfl ho.out rfl rfl hln.out hbz ?_; intro g' cap' w1 hown' hgrow hb2)
        have ho' : Hid (w1.ownsRow w.heap.size 3 1 (.slice (some ⟨g', 0, none⟩) ((bitsOf k z).length + 1) cap') (bitsOf (k + 1) z).length (Ints (bitsOf (k + 1) z))) := by
          unfold Hid
          rw [hl.out, Ints_snoc, List.length_append]
          exact hown'
        have hb3 := hb.trans hb2
        clear hown' hgrow hb2
        go_wp2_with fail
        go_roundw
        case rel => exact ⟨k + 1, _, by omega, by go_num, rfl, ho', hb3⟩
        case measure => simp [intOf]; omega
    · obtain rfl : k = 49 := by omega
      have hp : Hid (OwnInts (bitsOf 49 z) w (.returned _) wr) := ⟨_, rfl, ho.out, hb⟩
      clear ho hb
      go_wp2_with fail
      go_ret
      exact hp.out
/-- What is told of a board that is valid. -/
structure Ok (W H : Int) (N z : Nat) : Prop where
  wh : W * H = (N : Int)
  n1 : 1 ≤ N
  n49 : N ≤ 49
  z1 : 1 ≤ z
  zlt : z < 2 ^ N
  w1 : 1 ≤ W
  w7 : W ≤ 7
  h1 : 1 ≤ H
  h7 : H ≤ 7
theorem pow_cast (N : Nat) : ((2 : Int) ^ N) = ((2 ^ N : Nat) : Int) := by simp
theorem ok_of {W H Z : Int} (h : okB W H Z = true) : ∃ N z : Nat, Z = z ∧ Ok W H N z := by
  have h0 := h
  simp only [okB, Bool.and_eq_true, decide_eq_true_eq] at h
  obtain ⟨⟨⟨a, b⟩, c⟩, d⟩ := h
  obtain ⟨N, hN, n0, n1, e1, e2, e3, e4⟩ := sides a b
  obtain ⟨z, rfl⟩ := Int.eq_ofNat_of_zero_le (show 0 ≤ Z by omega)
  rw [hN, Int.toNat_natCast, pow_cast] at d
  exact ⟨N, z, rfl, hN, n0, n1, by omega, by omega, e1, e2, e3, e4⟩
theorem Ok.ok {W H : Int} {N z : Nat} (h : Ok W H N z) : okB W H z = true := by
  have h1 := h.w1; have h2 := h.w7; have h3 := h.h1; have h4 := h.h7; have h5 := h.z1; have h6 := h.zlt
  have e : inB (z : Int) 1 (2 ^ N - 1) = true := by
    rw [pow_cast]
    simp only [inB, Bool.and_eq_true, decide_eq_true_eq]
    omega
  rw [okB_eq (by simp [sideB, h1, h2]) (by simp [sideB, h3, h4]) h.wh, e]
theorem Ok.z49 {W H : Int} {N z : Nat} (h : Ok W H N z) : z < 2 ^ 49 := Nat.lt_of_lt_of_le h.zlt (Nat.pow_le_pow_right (by decide) h.n49)
theorem Ok.list {W H : Int} {N z : Nat} (h : Ok W H N z) : bitsOf 49 z = bitsOf N z := bitsOf_more h.zlt 49 h.n49
theorem specOk_yes {W H : Int} {N z : Nat} (h : Ok W H N z) (w : World) : Calls Try.prog 58 #[.agg #[.int .i64 W, .int .i64 H, .int .i64 z]] w fun e w' => e = .returned (.bool true) ∧ Below w.heap.size w w' := by
  rw [← h.ok]; exact specOk W H z w
theorem implOk_yes {W H : Int} {N z : Nat} (h : Ok W H N z) (w : World) : Calls Try.prog 61 #[.agg #[.int .i64 W, .int .i64 H, .int .i64 z]] w fun e w' => e = .returned (.bool true) ∧ Below w.heap.size w w' := by
  rw [← h.ok]; exact implOk W H z w
theorem specOk_no {W H Z : Int} (h : okB W H Z = false) (w : World) : Calls Try.prog 58 #[.agg #[.int .i64 W, .int .i64 H, .int .i64 Z]] w fun e w' => e = .returned (.bool false) ∧ Below w.heap.size w w' := by
  rw [← h]; exact specOk W H Z w
theorem implOk_no {W H Z : Int} (h : okB W H Z = false) (w : World) : Calls Try.prog 61 #[.agg #[.int .i64 W, .int .i64 H, .int .i64 Z]] w fun e w' => e = .returned (.bool false) ∧ Below w.heap.size w w' := by
  rw [← h]; exact implOk W H Z w
/-- A block of three ints, and that nothing older was touched. -/
def Box (b : Nat) (W H Z : Int) (w0 w : World) : Prop := w.cell? ⟨b, 0, none⟩ = some (.int .i64 W) ∧ w.cell? ⟨b, 1, none⟩ = some (.int .i64 H) ∧ w.cell? ⟨b, 2, none⟩ = some (.int .i64 Z) ∧ b < w.heap.size ∧ Below w0.heap.size w0 w
theorem box_new (W H Z : Int) (w : World) : Box w.heap.size W H Z w (w.alloc (.cells #[.int .i64 W, .int .i64 H, .int .i64 Z] 25)) := by
  refine ⟨?_, ?_, ?_, by simp, (Below.refl _ _).alloc (Nat.le_refl _) _⟩
  all_goals (rw [cell_of_row _ _ _ _ _ _ (heap_alloc_new w _)]; rfl)
theorem box_newT (T : TypeId) (W H Z : Int) (w : World) : Box w.heap.size W H Z w (w.alloc (.cells #[.int .i64 W, .int .i64 H, .int .i64 Z] T)) := by
  refine ⟨?_, ?_, ?_, by simp, (Below.refl _ _).alloc (Nat.le_refl _) _⟩
  all_goals (rw [cell_of_row _ _ _ _ _ _ (heap_alloc_new w _)]; rfl)
theorem Box.later {b : Nat} {W H Z : Int} {w0 w w' : World} (h : Box b W H Z w0 w) (hb : Below w.heap.size w w') : Box b W H Z w0 w' :=
  ⟨(hb.cell (p := ⟨b, 0, none⟩) h.2.2.2.1).trans h.1, (hb.cell (p := ⟨b, 1, none⟩) h.2.2.2.1).trans h.2.1, (hb.cell (p := ⟨b, 2, none⟩) h.2.2.2.1).trans h.2.2.1, Nat.lt_of_lt_of_le h.2.2.2.1 hb.size, h.2.2.2.2.trans (hb.mono h.2.2.2.2.size)⟩
set_option maxRecDepth 100000 in
theorem specHoles_no {W H Z : Int} (h : okB W H Z = false) (w : World) : Calls Try.prog 71 #[.agg #[.int .i64 W, .int .i64 H, .int .i64 Z]] w (OwnInts [] w) := by
  have C1 := Lib.hid (specOk_no h)
  clear h
  go_enter Try.func71, Try.ntmps71
  go_wp2_with fail
  have B0 := Lib.hid (box_new W H Z w)
  generalize w.alloc (.cells #[.int .i64 W, .int .i64 H, .int .i64 Z] 25) = W1 at *
  refine (C1.out _).mono ?_
  rintro e w1 ⟨rfl, hb⟩
  have B1 := Lib.hid (B0.out.later hb)
  go_wp2_with fail
  go_ret
  exact ⟨_, rfl, World.ownsRow_made w1 #[] 0 (B1.out.2.2.2.2.size) (by unfold maxLen; omega) rfl, B1.out.2.2.2.2.alloc B1.out.2.2.2.2.size _⟩
set_option maxRecDepth 100000 in
theorem specHoles {W H : Int} {N z : Nat} (h : Ok W H N z) (w : World) : Calls Try.prog 71 #[.agg #[.int .i64 W, .int .i64 H, .int .i64 z]] w (OwnInts (bitsOf N z) w) := by
  have C1 := Lib.hid (specOk_yes h)
  have C2 := Lib.hid (fun w => specList z w)
  have hl := Lib.hid h.list
  clear h
  go_enter Try.func71, Try.ntmps71
  go_wp2_with fail
  have B0 := Lib.hid (box_new W H z w)
  generalize w.alloc (.cells #[.int .i64 W, .int .i64 H, .int .i64 z] 25) = W1 at *
  refine (C1.out _).mono ?_
  rintro e w1 ⟨rfl, hb⟩
  obtain ⟨c0, c1, c2, hlt, hb1⟩ := B0.out.later hb
  clear hb B0
  go_wp2_with fail
  refine (C2.out _).mono ?_
  rintro e w2 ⟨v, rfl, ho, hb2⟩
  have hp : Hid (OwnInts (bitsOf N z) w (.returned v) w2) := by
    rw [hl.out] at ho
    exact ⟨v, rfl, own_base ho hb1.size, hb1.trans (hb2.mono hb1.size)⟩
  clear c0 c1 c2 hlt hb1 hb2 ho
  go_wp2_with fail
  go_ret
  exact hp.out

theorem mask (c : Nat) (m : Int) (hm : m = ((M c 8 : Nat) : Int)) (hc : M c 8 < 18446744073709551616) (x : Nat) (hx : x < 18446744073709551616) : bits .and .u64 (x : Int) m = ((x &&& M c 8 : Nat) : Int) := by
  rw [hm]; exact bits_and_u64_nat _ _ hx hc
theorem wrapN (x : Nat) (hx : x < 18446744073709551616) : IntKind.u64.wrap (x : Int) = (x : Int) := by rw [IntKind.wrap_u64]; omega
theorem k1 : (6148914691236517205 : Int) = ((M 85 8 : Nat) : Int) := by decide
theorem k2 : (3689348814741910323 : Int) = ((M 51 8 : Nat) : Int) := by decide
theorem k3 : (1085102592571150095 : Int) = ((M 15 8 : Nat) : Int) := by decide
theorem st1 (z : Nat) (hz : z < 18446744073709551616) : IntKind.u64.wrap (bits .and .u64 ((z : Int) / 2) 6148914691236517205 + bits .and .u64 (z : Int) 6148914691236517205) = ((S1 8 z : Nat) : Int) := by
  have h := (low_lt z hz).1
  rw [show ((z : Int) / 2) = ((z / 2 : Nat) : Int) by simp, mask 85 _ k1 (by decide) _ (by omega), mask 85 _ k1 (by decide) _ hz, ← Int.natCast_add]
  exact wrapN _ h
theorem st2 (z : Nat) (hz : z < 18446744073709551616) : IntKind.u64.wrap (bits .and .u64 (((S1 8 z : Nat) : Int) / 4) 3689348814741910323 + bits .and .u64 ((S1 8 z : Nat) : Int) 3689348814741910323) = ((low 8 z : Nat) : Int) := by
  have h := (low_lt z hz).1
  have h' := (low_lt z hz).2
  rw [show (((S1 8 z : Nat) : Int) / 4) = ((S1 8 z / 4 : Nat) : Int) by simp, mask 51 _ k2 (by decide) _ (by omega), mask 51 _ k2 (by decide) _ h, ← Int.natCast_add]
  exact wrapN _ (Nat.lt_of_le_of_lt h' (by decide))
theorem st3 (z : Nat) (hz : z < 18446744073709551616) : bits .and .u64 (IntKind.u64.wrap (((low 8 z : Nat) : Int) / 16 + ((low 8 z : Nat) : Int))) 1085102592571150095 = ((cnt 8 z : Nat) : Int) := by
  have h := (low_lt z hz).2
  rw [show (((low 8 z : Nat) : Int) / 16 + ((low 8 z : Nat) : Int)) = ((low 8 z / 16 + low 8 z : Nat) : Int) by simp, wrapN _ (by omega), mask 15 _ k3 (by decide) _ (by omega)]
  exact congrArg _ (S3_low 8 z)
theorem i64_and127 (n : Int) : bits .and .i64 n 127 = n % 128 := by
  have h1 : (BitVec.ofInt 64 127).toNat = 2 ^ 7 - 1 := by decide
  have key : (BitVec.ofInt 64 n &&& BitVec.ofInt 64 127).toNat = (n % ((2 ^ 64 : Nat) : Int)).toNat % 2 ^ 7 := by
    rw [BitVec.toNat_and, BitVec.toNat_ofInt, h1, Nat.and_two_pow_sub_one_eq_mod]
  show IntKind.i64.wrap ((BitVec.ofInt 64 n &&& BitVec.ofInt 64 127).toNat : Nat) = n % 128
  rw [key, IntKind.wrap_i64]
  omega
theorem fin_int (c : Nat) (z : Nat) (h : c = cnt 8 z) (s : Int) (hs : s = IntKind.u64.wrap ((c : Int) + (c : Int) / 256)) (u : Int) (hu : u = IntKind.u64.wrap (s + s / 65536)) (v : Int) (hv : v = IntKind.u64.wrap (u + u / 4294967296)) : v % 128 = pc 64 z := by
  rw [← fin_sum z c h]
  rw [IntKind.wrap_u64] at hs hu hv
  subst hs hu hv
  simp
set_option maxRecDepth 100000 in
theorem ones64 (z : Nat) (w : World) (hz : z < 18446744073709551616) : Calls Try.prog 63 #[.int .u64 z] w fun e w' => e = .returned (.int .i64 (pc 64 z)) ∧ w = w' := by
  go_enter Try.func63, Try.ntmps63
  go_wp2_with fail
  go_ret
  refine ⟨ret_int ?_, rfl⟩
  have hw : ∀ x : Int, wrap64 x % 128 = x % 128 := by intro x; unfold wrap64; omega
  simp only [st1 z hz, st2 z hz, st3 z hz, i64_and127, hw]
  exact fin_int _ z rfl _ rfl _ rfl _ rfl
set_option maxRecDepth 100000 in
theorem specCount {W H : Int} {N z : Nat} (h : Ok W H N z) (w : World) : Calls Try.prog 50 #[.agg #[.int .i64 W, .int .i64 H, .int .i64 z]] w fun e w' => e = .returned (.int .i64 (bitsOf N z).length) ∧ Below w.heap.size w w' := by
  have C1 := Lib.hid (specHoles h)
  clear h
  go_enter Try.func50, Try.ntmps50
  go_wp2_with fail
  have B0 := Lib.hid (box_new W H z w)
  generalize w.alloc (.cells #[.int .i64 W, .int .i64 H, .int .i64 z] 25) = W1 at *
  refine (C1.out _).mono ?_
  rintro e w1 ⟨v, rfl, ho, hb⟩
  have B1 := Lib.hid (B0.out.later hb)
  obtain ⟨a, c, rfl⟩ : ∃ a c, v = .slice a (bitsOf N z).length c := by rcases Go.Joins.ownsRow_forms ho with ⟨rfl, h⟩ | ⟨g, cap, rfl⟩ <;> first | exact ⟨_, _, rfl⟩ | exact ⟨none, 0, by rw [h]⟩
  clear ho hb
  go_wp2_with fail
  go_ret
  exact ⟨rfl, B1.out.2.2.2.2⟩

theorem specCount_no {W H Z : Int} (h : okB W H Z = false) (w : World) : Calls Try.prog 50 #[.agg #[.int .i64 W, .int .i64 H, .int .i64 Z]] w fun e w' => e = .returned (.int .i64 0) ∧ Below w.heap.size w w' := by
  have C1 := Lib.hid (specHoles_no h)
  clear h
  go_enter Try.func50, Try.ntmps50
  go_wp2_with fail
  have B0 := Lib.hid (box_new W H Z w)
  generalize w.alloc (.cells #[.int .i64 W, .int .i64 H, .int .i64 Z] 25) = W1 at *
  refine (C1.out _).mono ?_
  rintro e w1 ⟨v, rfl, ho, hb⟩
  have B1 := Lib.hid (B0.out.later hb)
  obtain ⟨a, c, rfl⟩ : ∃ a c, v = .slice a 0 c := by rcases Go.Joins.ownsRow_forms ho with ⟨rfl, h⟩ | ⟨g, cap, rfl⟩ <;> exact ⟨_, _, rfl⟩
  clear ho hb
  go_wp2_with fail
  go_ret
  exact ⟨rfl, B1.out.2.2.2.2⟩
theorem implCount_no {W H Z : Int} (h : okB W H Z = false) (w : World) : Calls Try.prog 78 #[.agg #[.int .i64 W, .int .i64 H, .int .i64 Z]] w fun e w' => e = .returned (.int .i64 0) ∧ Below w.heap.size w w' := by
  have C1 := Lib.hid (implOk_no h)
  clear h
  go_enter Try.func78, Try.ntmps78
  go_wp2_with fail
  have B0 := Lib.hid (box_new W H Z w)
  generalize w.alloc (.cells #[.int .i64 W, .int .i64 H, .int .i64 Z] 25) = W1 at *
  refine (C1.out _).mono ?_
  rintro e w1 ⟨rfl, hb⟩
  have B1 := Lib.hid (B0.out.later hb)
  clear hb
  go_wp2_with fail
  go_ret
  exact ⟨rfl, B1.out.2.2.2.2⟩
theorem Ok.zbig {W H : Int} {N z : Nat} (h : Ok W H N z) : z < 562949953421312 := Nat.lt_of_lt_of_le h.z49 (by decide)
theorem Ok.count {W H : Int} {N z : Nat} (h : Ok W H N z) : pc 64 z = (bitsOf N z).length := by rw [bitsOf_length]; exact pc_more h.zlt 64 (by have := h.n49; omega)
theorem implCount {W H : Int} {N z : Nat} (h : Ok W H N z) (w : World) : Calls Try.prog 78 #[.agg #[.int .i64 W, .int .i64 H, .int .i64 z]] w fun e w' => e = .returned (.int .i64 (bitsOf N z).length) ∧ Below w.heap.size w w' := by
  have C1 := Lib.hid (implOk_yes h)
  have hz := h.zbig
  have C2 := Lib.hid (fun w => ones64 z w (by omega))
  have E := Lib.hid h.count
  clear h
  go_enter Try.func78, Try.ntmps78
  go_wp2_with fail
  have B0 := Lib.hid (box_new W H z w)
  generalize w.alloc (.cells #[.int .i64 W, .int .i64 H, .int .i64 z] 25) = W1 at *
  refine (C1.out _).mono ?_
  rintro e w1 ⟨rfl, hb⟩
  have B1 := Lib.hid (B0.out.later hb)
  obtain ⟨c0, c1, c2, hlt, hb1⟩ := B0.out.later hb
  clear hb
  go_wp2_with fail
  refine (C2.out _).mono ?_
  rintro e w2 ⟨rfl, rfl⟩
  go_wp2_with fail
  go_ret
  exact ⟨ret_int (by rw [E.out]), B1.out.2.2.2.2⟩
/-- The bit of an index of a board. -/
theorem implBit (W H : Int) (z k : Nat) (w : World) (hk : k < 49) : Calls Try.prog 79 #[.agg #[.int .i64 W, .int .i64 H, .int .i64 z], .int .i64 k] w fun e w' => e = .returned (.bool (bit z k)) ∧ Below w.heap.size w w' := by
  have hand := hand1
  have hb : Hid (∀ b, ((z : Int) / 2 ^ k % 2 == 1) = b → b = bit z k) := fun b h => by rw [← h, bit_int]
  go_enter Try.func79, Try.ntmps79
  go_wp2_with fail
  go_ret
  exact ⟨ret_bool (hb.out _ rfl), (Below.refl _ _).alloc (Nat.le_refl _) _⟩
end Go.Proofs.Ytgkmapemnlgldaa

namespace Go.Proofs.Ytgkmapemnlgldaa
open Go.RowKit
theorem implHoles_no {W H Z : Int} (h : okB W H Z = false) (w : World) : Calls Try.prog 64 #[.agg #[.int .i64 W, .int .i64 H, .int .i64 Z]] w (OwnInts [] w) := by
  have C1 := Lib.hid (implOk_no h)
  clear h
  go_enter Try.func64, Try.ntmps64
  go_wp2_with fail
  have B0 := Lib.hid (box_new W H Z w)
  generalize w.alloc (.cells #[.int .i64 W, .int .i64 H, .int .i64 Z] 25) = W1 at *
  refine (C1.out _).mono ?_
  rintro e w1 ⟨rfl, hb⟩
  have B1 := Lib.hid (B0.out.later hb)
  have hp : Hid (OwnInts [] w (.returned (.slice none 0 0)) w1) := ⟨_, rfl, World.ownsRow_nil _ _ _ _, B1.out.2.2.2.2⟩
  go_wp2_with fail
  go_ret
  exact hp.out
theorem Box.kept {b : Nat} {W H Z : Int} {w0 w w' : World} {B : Nat} (h : Box b W H Z w0 w) (hb : Below B w w') (hB : b < B) (h0 : w0.heap.size ≤ B) : Box b W H Z w0 w' :=
  ⟨(hb.cell (p := ⟨b, 0, none⟩) hB).trans h.1, (hb.cell (p := ⟨b, 1, none⟩) hB).trans h.2.1, (hb.cell (p := ⟨b, 2, none⟩) hB).trans h.2.2.1, Nat.lt_of_lt_of_le h.2.2.2.1 hb.size, h.2.2.2.2.trans (hb.mono h0)⟩
set_option maxHeartbeats 1000000 in
set_option maxRecDepth 100000 in
theorem implHoles {W H : Int} {N z : Nat} (h : Ok W H N z) (w : World) : Calls Try.prog 64 #[.agg #[.int .i64 W, .int .i64 H, .int .i64 z]] w (OwnInts (bitsOf N z) w) := by
  have C1 := Lib.hid (implOk_yes h)
  have C2 := Lib.hid (implCount h)
  have C3 := Lib.hid (fun w => implSize W H z w N h.wh h.n49)
  have C4 := Lib.hid (fun k w (hk : k < 49) => implBit W H z k w hk)
  have hn := h.n49
  have hle := bitsOf_le N z
  obtain ⟨i0, hi, hz0, hz1, hz2⟩ : ∃ i, Try.prog.info? 3 = some i ∧ i.zero = some (.int .i64 0) ∧ i.size = 1 ∧ i.bytes = 8 := ⟨_, by rfl, by rfl, by rfl, by rfl⟩
  clear h
  go_enter Try.func64, Try.ntmps64
  go_wp2_with fail
  have B0 := Lib.hid (box_new W H z w)
  generalize w.alloc (.cells #[.int .i64 W, .int .i64 H, .int .i64 z] 25) = W1 at *
  refine (C1.out _).mono ?_
  rintro e w1 ⟨rfl, hb⟩
  have B1 := Lib.hid (B0.out.later hb)
  obtain ⟨c0, c1, c2, hlt, hb1⟩ := B0.out.later hb
  clear hb B0
  go_wp2_with fail
  refine (C2.out _).mono ?_
  rintro e w2 ⟨rfl, hb2⟩
  have B2 := Lib.hid (B1.out.later hb2)
  clear c0 c1 c2 hlt hb1 hb2 B1
  obtain ⟨c0, c1, c2, hlt, hb2⟩ := B2.out
  obtain ⟨n, hnn⟩ : ∃ n, (bitsOf N z).length = n := ⟨_, rfl⟩
  rw [hnn] at hle ⊢
  clear hnn
  obtain ⟨w3, hmk, hrow, hg3⟩ := run_make_own (P := Try.prog) w2 (w.heap.size + 1) 30 3 i0 (.int .i64 0) 1 Try.underlying30 hi hz0 hz1 .i64 .i64 n (by rw [hz2]; omega) (by unfold maxLen; omega) hlt
  have hk3 : Below w2.heap.size w2 w3 := ⟨hg3.os, hg3.tape, hg3.output, hg3.size, fun j hj => hg3.block j hj (by simp)⟩
  have B3 := Lib.hid (B2.out.later hk3)
  have HR := Lib.hid hrow
  clear hrow hg3 hk3 hb2 B2
  clear c0 c1 c2 hlt
  obtain ⟨c0, c1, c2, hlt, hb3⟩ := B3.out
  go_wp2_with fail
  clear hmk
  refine (C3.out _).mono ?_
  rintro e w4 ⟨rfl, hb4⟩
  have B4 := Lib.hid (B3.out.later hb4)
  have HR4 := Lib.hid (own_below HR.out hb4)
  clear c0 c1 c2 hlt hb3 hb4 B3 HR
  go_wp2_with fail
  go_loopw [3, 13] (fun s i wr => ∃ (k : Nat) (v : Value), k ≤ N ∧ i = .int .i64 k ∧ s = v ∧ Hid (wr.ownsRow (w.heap.size + 1) 3 1 v (bitsOf k z).length (Ints (bitsOf k z))) ∧ Hid (Box w.heap.size W H z w wr)) (fun _ i _ => N - (intOf i).toNat)
  case atStart => exact ⟨0, _, by omega, rfl, rfl, HR4, B4⟩
  case round =>
    obtain ⟨k, v, hk, rfl, rfl, ho, hbx⟩ := hrel
    obtain ⟨c0, c1, c2, hlt, hb5⟩ := hbx.out
    by_cases hkn : k < N
    · have hk49 : k < 49 := by omega
      go_wp2_with fail
      refine (C4.out k _ hk49).mono ?_
      rintro e w5 ⟨rfl, hb6⟩
      have hbx1 := Lib.hid (hbx.out.later hb6)
      have ho1 := Lib.hid (own_below ho.out hb6)
      clear c0 c1 c2 hlt hb5 hb6 hbx ho
      cases hbit : bit z k
      · have hl := Lib.hid (bitsOf_no hbit)
        clear hbit
        go_wp2_with fail
        go_roundw
        case rel => exact ⟨k + 1, _, by omega, by go_num, rfl, by unfold Hid; rw [hl.out]; exact ho1.out, hbx1⟩
        case measure => simp [intOf]; omega
      · have hl := Lib.hid (bitsOf_yes hbit)
        have hln : Hid ((bitsOf k z).length ≤ 1000000000) := by unfold Hid; have := bitsOf_le k z; omega
        have hbz := hbx1.out.2.2.2.1
        clear hbit
        go_wp2_with (at_builtin; refine wpList_append_one rfl (.tmp 19) (.tmp 21) 30 rfl (w.heap.size + 1) 3 i0 (.int .i64 0) 8 Try.underlying30 hi hz0 hz1 hz2 rfl (by decide) _ _ _ rfl ho1.out rfl rfl hln.out hbz ?_; intro g' cap' w6 hown' hgrow hb2)
        have ho' : Hid (w6.ownsRow (w.heap.size + 1) 3 1 (.slice (some ⟨g', 0, none⟩) ((bitsOf k z).length + 1) cap') (bitsOf (k + 1) z).length (Ints (bitsOf (k + 1) z))) := by
          unfold Hid
          rw [hl.out, Ints_snoc, List.length_append]
          exact hown'
        have hbx2 := Lib.hid (hbx1.out.kept hb2 (Nat.lt_succ_self _) (Nat.le_succ _))
        clear hown' hgrow hb2 hbz
        go_wp2_with fail
        go_roundw
        case rel => exact ⟨k + 1, _, by omega, by go_num, rfl, ho', hbx2⟩
        case measure => simp [intOf]; omega
    · obtain rfl : k = N := by omega
      have hp : Hid (OwnInts (bitsOf k z) w (.returned _) wr) := ⟨_, rfl, own_base ho.out (Nat.le_succ _), hb5⟩
      clear ho hb5 hbx c0 c1 c2 hlt
      go_wp2_with fail
      go_ret
      exact hp.out

/-- Whether an index is that of a hole. -/
def holeB (W H Z k : Int) : Bool := okB W H Z && inB k 0 (W * H - 1) && bit Z.toNat k.toNat
theorem holeB_no {W H Z k : Int} (h : okB W H Z = false) : holeB W H Z k = false := by simp [holeB, h]
theorem holeB_out {W H k : Int} {N z : Nat} (h : Ok W H N z) (hk : k < 0 ∨ (N : Int) ≤ k) : holeB W H z k = false := by
  have e : inB k 0 (W * H - 1) = false := by
    rw [h.wh]
    simp only [inB, Bool.and_eq_false_iff, decide_eq_false_iff_not]
    omega
  simp [holeB, e]
theorem holeB_in {W H : Int} {N z k : Nat} (h : Ok W H N z) (hk : k < N) : holeB W H z k = bit z k := by
  have e : inB k 0 (W * H - 1) = true := by
    rw [h.wh]
    simp only [inB, Bool.and_eq_true, decide_eq_true_eq]
    omega
  simp [holeB, e, h.ok]
theorem holeCases (W H Z k : Int) : okB W H Z = false ∨ ∃ N z : Nat, Z = z ∧ Ok W H N z ∧ (k < 0 ∨ (N : Int) ≤ k ∨ ∃ j : Nat, k = j ∧ j < N) := by
  cases h : okB W H Z
  · exact .inl rfl
  · right
    obtain ⟨N, z, rfl, ho⟩ := ok_of h
    refine ⟨N, z, rfl, ho, ?_⟩
    rcases Int.lt_or_le k 0 with h0 | h0
    · exact .inl h0
    · obtain ⟨j, rfl⟩ := Int.eq_ofNat_of_zero_le h0
      rcases Nat.lt_or_ge j N with h1 | h1
      · exact .inr (.inr ⟨j, rfl, h1⟩)
      · exact .inr (.inl (by omega))
end Go.Proofs.Ytgkmapemnlgldaa

namespace Go.Proofs.Ytgkmapemnlgldaa
open Go.RowKit
theorem row_facts {w : World} {b : Nat} {x y z : Value} {t : TypeId} (h : w.heap[b]? = some (.cells #[x, y, z] t (0, 0))) :
    w.cell? ⟨b, 0, none⟩ = some x ∧ w.cell? ⟨b, 1, none⟩ = some y ∧ w.cell? ⟨b, 2, none⟩ = some z ∧ w.frozen? ⟨b, 0, none⟩ = false ∧ w.frozen? ⟨b, 1, none⟩ = false ∧ w.frozen? ⟨b, 2, none⟩ = false := by
  refine ⟨?_, ?_, ?_, frozen_of_row w b 0 _ _ h, frozen_of_row w b 1 _ _ h, frozen_of_row w b 2 _ _ h⟩
  all_goals (rw [cell_of_row w b _ _ _ _ h]; rfl)
theorem row_later {w w' : World} {b : Nat} {o : Obj} {B : Nat} (h : w.heap[b]? = some o) (hb : Below B w w') (hB : b < B) : w'.heap[b]? = some o := (hb.block b hB).trans h
theorem row_alloc {w : World} {b : Nat} {o o' : Obj} (h : w.heap[b]? = some o) : (w.alloc o').heap[b]? = some o := by
  have hlt : b < w.heap.size := by
    rcases Nat.lt_or_ge b w.heap.size with h' | h'
    · exact h'
    · rw [Array.getElem?_eq_none h'] at h; cases h
  exact (((Below.refl w.heap.size w).alloc (Nat.le_refl _) o').block b hlt).trans h
theorem set_below {w0 w : World} {B b j : Nat} {v : Value} (h : Below B w0 w) (hb : B ≤ b) : Below B w0 (w.setCell ⟨b, j, none⟩ v) := h.setCell hb _
/-- A block of three cells, stored anew. -/
def set3 (w : World) (b : Nat) (x y z : Value) : World := ((w.setCell ⟨b, 0, none⟩ x).setCell ⟨b, 1, none⟩ y).setCell ⟨b, 2, none⟩ z
theorem row_set3 {w : World} {b : Nat} {x y z x' y' z' : Value} {T : TypeId} (h : w.heap[b]? = some (.cells #[x, y, z] T (0, 0))) : (set3 w b x' y' z').heap[b]? = some (.cells #[x', y', z'] T (0, 0)) :=
  heap_setCell_same _ b 2 _ T _ (heap_setCell_same _ b 1 _ T _ (heap_setCell_same w b 0 _ T _ h))
theorem set3_size (w : World) (b : Nat) (x y z : Value) : (set3 w b x y z).heap.size = w.heap.size := by simp [set3]
theorem set3_below {w0 w : World} {b : Nat} {x y z : Value} (h : Below w0.heap.size w0 w) (hb : w0.heap.size ≤ b) : Below w0.heap.size w0 (set3 w b x y z) := set_below (set_below (set_below h hb) hb) hb
theorem set3_more {w0 w : World} {b : Nat} {x y z : Value} (o : Obj) (h : Below w0.heap.size w0 w) (hb : w0.heap.size ≤ b) : Below w0.heap.size w0 ((set3 w b x y z).alloc o) :=
  (set3_below h hb).alloc (by rw [set3_size]; exact h.size) o
theorem row_set3_more {w : World} {b : Nat} {x y z x' y' z' : Value} {T : TypeId} (o : Obj) (h : w.heap[b]? = some (.cells #[x, y, z] T (0, 0))) : ((set3 w b x' y' z').alloc o).heap[b]? = some (.cells #[x', y', z'] T (0, 0)) := row_alloc (row_set3 h)
/-- Three ints as a board. -/
def bd (W H Z : Int) : Value := .agg #[.int .i64 W, .int .i64 H, .int .i64 Z]
set_option maxRecDepth 100000 in
theorem toB (W H Z : Int) (w : World) : Calls Try.prog 21 #[.agg #[.int .i64 W, .int .i64 H, .int .i64 Z]] w fun e w' => e = .returned (.agg #[.int .i64 W, .int .i64 H, .int .i64 Z]) ∧ Below w.heap.size w w' := by
  go_enter Try.func21, Try.ntmps21
  go_wp2_with fail
  exact bodyPost_ret (v := .agg #[.int .i64 W, .int .i64 H, .int .i64 Z]) (by simp [results, Try.results21, go_sem]) rfl ⟨rfl, (((Below.refl _ _).alloc (Nat.le_refl _) _).alloc (by simp) _).alloc (by simp; omega) _⟩
/-- The board of all holes, or the zero board. -/
def rectZ (W H : Int) : Int × Int × Int := if sideB W && sideB H then (W, H, 2 ^ (W * H).toNat - 1) else (0, 0, 0)
theorem rect_no1 {W H : Int} (h : sideB W = false) : rectZ W H = (0, 0, 0) := by simp [rectZ, h]
theorem rect_no2 {W H : Int} (h : sideB H = false) : rectZ W H = (0, 0, 0) := by simp [rectZ, h]
theorem rect_yes {W H : Int} (h1 : sideB W = true) (h2 : sideB H = true) {N : Nat} (h : W * H = N) : rectZ W H = (W, H, 2 ^ N - 1) := by simp [rectZ, h1, h2, h]
def RectPost (W H : Int) (w : World) (e : Ending) (w' : World) : Prop := e = .returned (bd (rectZ W H).1 (rectZ W H).2.1 (rectZ W H).2.2) ∧ Below w.heap.size w w'
set_option maxRecDepth 100000 in
theorem specRect (W H : Int) (w : World) : Calls Try.prog 51 #[.int .i64 W, .int .i64 H] w (RectPost W H w) := by
  have e7 : ∀ n, inB n 1 7 = sideB n := fun _ => rfl
  cases h1 : sideB W
  · have HE := Lib.hid (rect_no1 (H := H) h1)
    go_enter Try.func51, Try.ntmps51
    go_wp2_with fail
    refine (specIn _ _ _ _).mono ?_
    rintro e w1 ⟨rfl, rfl⟩
    rw [e7, h1]
    go_wp2_with fail
    exact bodyPost_ret (v := bd 0 0 0) (by simp [results, Try.results51, go_sem, bd]) rfl ⟨by rw [HE.out], (Below.refl _ _).alloc (Nat.le_refl _) _⟩
  · cases h2 : sideB H
    · have HE := Lib.hid (rect_no2 (W := W) h2)
      go_enter Try.func51, Try.ntmps51
      go_wp2_with fail
      refine (specIn _ _ _ _).mono ?_
      rintro e w1 ⟨rfl, rfl⟩
      rw [e7, h1]
      go_wp2_with fail
      refine (specIn _ _ _ _).mono ?_
      rintro e w1 ⟨rfl, rfl⟩
      rw [e7, h2]
      go_wp2_with fail
      exact bodyPost_ret (v := bd 0 0 0) (by simp [results, Try.results51, go_sem, bd]) rfl ⟨by rw [HE.out], (Below.refl _ _).alloc (Nat.le_refl _) _⟩
    · obtain ⟨N, hN, n0, n1, -, -, -, -⟩ := sides h1 h2
      obtain ⟨p1, p2⟩ := pow_le49 n1
      have HE := Lib.hid (rect_yes h1 h2 hN)
      go_enter Try.func51, Try.ntmps51
      go_wp2_with fail
      refine (specIn _ _ _ _).mono ?_
      rintro e w1 ⟨rfl, rfl⟩
      rw [e7, h1]
      go_wp2_with fail
      refine (specIn _ _ _ _).mono ?_
      rintro e w1 ⟨rfl, rfl⟩
      rw [e7, h2]
      go_wp2_with fail
      exact bodyPost_ret (v := bd W H (2 ^ N - 1)) (by simp [results, Try.results51, go_sem, bd]) rfl ⟨by rw [HE.out], (Below.refl _ _).alloc (Nat.le_refl _) _⟩
def armB (k : Nat) : Bool := decide (2 ≤ k % 7 ∧ k % 7 ≤ 4 ∨ 2 ≤ k / 7 ∧ k / 7 ≤ 4)
/-- The sum of the holes of the cross below k. -/
def crossN : Nat → Nat
  | 0 => 0
  | k + 1 => if armB k then crossN k + 2 ^ k else crossN k
theorem cross_or : ∀ k : Fin 49, armB k.val = true → bits .or .i64 (crossN k.val : Int) (2 ^ k.val) = (crossN (k.val + 1) : Nat) := by decide +kernel
theorem cross_no (k : Nat) (h : armB k = false) : crossN (k + 1) = crossN k := by simp [crossN, h]
def zero3 (w : World) (b : Nat) : Prop := w.heap[b]? = some (.cells #[.int .i64 0, .int .i64 0, .int .i64 0] 25 (0, 0))
def at7 (w : World) (b k : Nat) : Prop := w.heap[b]? = some (.cells #[.int .i64 7, .int .i64 7, .int .i64 (crossN k)] 25 (0, 0))
theorem at7_set {w : World} {b k : Nat} (h : at7 w b k) : at7 (w.setCell ⟨b, 2, none⟩ (.int .i64 (crossN (k + 1)))) b (k + 1) :=
  heap_setCell_same w b 2 _ 25 _ h
def CrossPost (w : World) (e : Ending) (w' : World) : Prop := e = .returned (bd 7 7 (crossN 49)) ∧ Below w.heap.size w w'
end Go.Proofs.Ytgkmapemnlgldaa

namespace Go.Proofs.Ytgkmapemnlgldaa
open Go.RowKit
set_option maxRecDepth 100000 in
theorem implPlace (W H Z : Int) (k : Nat) (w : World) (h1 : 1 ≤ W) (h7 : W ≤ 7) (hk : k ≤ 1000) : Calls Try.prog 85 #[.agg #[.int .i64 W, .int .i64 H, .int .i64 Z], .int .i64 k] w fun e w' => e = .returned (.tuple #[.int .i64 ((k : Int) % W), .int .i64 ((k : Int) / W)]) ∧ Below w.heap.size w w' := by
  have q0 : (W == 0) = false := by simp; omega
  have q1 : 0 ≤ (k : Int) % W := Int.emod_nonneg _ (by omega)
  have q2 : (k : Int) % W < W := Int.emod_lt_of_pos _ (by omega)
  have q3 : 0 ≤ (k : Int) / W := Int.ediv_nonneg (by omega) (by omega)
  have q4 : (k : Int) / W ≤ k := Int.ediv_le_self _ (by omega)
  have q5 : ((k : Int)).tmod W = (k : Int) % W := Int.tmod_eq_emod_of_nonneg (by omega)
  have q6 : ((k : Int)).tdiv W = (k : Int) / W := Int.tdiv_eq_ediv_of_nonneg (by omega)
  go_enter Try.func85, Try.ntmps85
  go_wp2_with fail
  go_quiet (fail)
  go_wp2_with fail
  go_ret2
  exact ⟨rfl, below_drewN _ ((Below.refl _ _).alloc (Nat.le_refl _) _)⟩
theorem armB_eq (k : Nat) : armB k = (inB ((k : Int) % 7) 2 4 || inB ((k : Int) / 7) 2 4) := by
  rw [Bool.eq_iff_iff]
  simp only [armB, inB, Bool.or_eq_true, Bool.and_eq_true, decide_eq_true_eq]
  omega
end Go.Proofs.Ytgkmapemnlgldaa

namespace Go.Proofs.Ytgkmapemnlgldaa
open Go.RowKit
theorem closed_box {b : Nat} {W H Z : Int} {w0 : World} : Closed (Box b W H Z w0) := fun _ _ h k => h.later k
/-- append(v, x) of one element of one cell, v owned, x in a block of its own: at the operation. -/
theorem wp_append_one {P : Program} {o : Oper} {a : Act} {K : Act → World → Prop} {Q : Exit → Act → World → Prop} {w : World} {x : Value} (s y : Operand) (t : TypeId)
    (ho : o.op = .call { callee := .builtin .append, args := #[s, y], argTypes := #[t, t] })
    (base : Nat) (e : TypeId) (i : TypeInfo) (z : Value) (bytes : Nat) (ht : P.underlying t = some (.slice e)) (hi : P.info? e = some i) (hz : i.zero = some z)
    (hsize : i.size = 1) (hby : i.bytes = bytes) (hzs : z.cells.size = 1) (hsm : bytes ≤ 64)
    (v : Value) (n : Nat) (xs : List Value) (hs : a.eval s = v) (hown : w.ownsRow base e 1 v n xs) (p : Nat)
    (hx : a.eval y = .slice (some ⟨p, 0, none⟩) 1 1) (hp : w.heap[p]? = some (.cells #[x] e (0, 0))) (h1 : x.oneCell' = true) (hn : n ≤ 1000000000) (hbase : base ≤ w.heap.size)
    (h : ∀ g cap w', w'.ownsRow base e 1 (.slice (some ⟨g, 0, none⟩) (n + 1) cap) (n + 1) (xs ++ [x]) → w.grownBy w' v.ownBlock → Below base w w' → K (a.put o.dst (.slice (some ⟨g, 0, none⟩) (n + 1) cap)) w') : o.wp P a w K Q := by
  have hnb : (n + 1) * bytes ≤ 140737488355328 := Nat.le_trans (Nat.mul_le_mul (show n + 1 ≤ 1000000001 by omega) hsm) (by decide)
  refine wp_append_lies w s y t ho base e i z 1 bytes ht hi hz hsize hby hzs Nat.one_pos v n xs hs hown ⟨p, 0, none⟩ 1 1 [x] hx rfl
    (World.news_of_block (cs := #[x]) (t := e) (fr := (0, 0)) hp) (by intro u hu; simp at hu; subst hu; exact h1) Nat.one_pos (by unfold maxLen; omega) hnb hbase _ rfl ?_
  intro g cap w' h2 h3 _ _
  exact h g cap w' h2 h3 ((Below.refl base w).grown h3 hbase (fun k hk => (hown.lt k hk).1))
end Go.Proofs.Ytgkmapemnlgldaa
