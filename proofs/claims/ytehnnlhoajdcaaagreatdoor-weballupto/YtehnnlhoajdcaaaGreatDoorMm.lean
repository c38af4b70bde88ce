import Derived.Test.YtehnnlhoajdcaaaGreatDoorMl
import Derived.Lib.CutLaws
import Derived.Lib.IndexLaws
import Derived.Lib.IndexBytes
import Derived.RangeFuncBox
import Derived.RangeFuncNested
import Derived.RangeFuncBound
import Derived.RangeFuncCalls
import Derived.RangeFuncLeaves
import Derived.RangeFuncWrites
import Derived.OwnWalkIn
import Derived.TacticsInMore
import Derived.LoopNIn
import Derived.LoopIn
namespace Go.Proofs.YtehnnlhoajdcaaaGreatDoor
open Go.RowKit Go.Shelf TextNum
attribute [local go_sem] Oper.semAt_some
def lns : Nat → List UInt8 → List (List UInt8)
 | 0, _ => []
 | f + 1, l => if l = [] then [] else l.takeWhile (· != 10) :: lns f ((l.dropWhile (· != 10)).drop 1)
def linesOf (l : List UInt8) : List (List UInt8) := lns l.length l
theorem tail_lt {l : List UInt8} (h : l ≠ []) : ((l.dropWhile (· != 10)).drop 1).length < l.length := by
 have h1 : (l.dropWhile (· != 10)).length ≤ l.length := (List.dropWhile_sublist _).length_le
 have h2 : 0 < l.length := List.length_pos_iff.2 h
 rw [List.length_drop]
 omega
theorem lns_fuel : ∀ (f g : Nat) (l : List UInt8), l.length ≤ f → l.length ≤ g → lns f l = lns g l
 | 0, 0, _, _, _ => rfl
 | 0, g + 1, l, hf, _ => by
  have : l = [] := List.length_eq_zero_iff.1 (by omega)
  subst this; simp [lns]
 | f + 1, 0, l, _, hg => by
  have : l = [] := List.length_eq_zero_iff.1 (by omega)
  subst this; simp [lns]
 | f + 1, g + 1, l, hf, hg => by
  unfold lns
  by_cases h : l = []
  · simp [h]
  have := tail_lt h
  rw [if_neg h, if_neg h, lns_fuel f g _ (by omega) (by omega)]
theorem linesOf_cons {l : List UInt8} (h : l ≠ []) : linesOf l = l.takeWhile (· != 10) :: linesOf ((l.dropWhile (· != 10)).drop 1) := by
 have h2 := tail_lt h
 unfold linesOf
 rw [show l.length = (l.length - 1) + 1 by omega]
 conv => lhs; unfold lns
 rw [if_neg h, lns_fuel (l.length - 1) _ _ (by omega) (Nat.le_refl _)]
theorem take_line {a : List UInt8} (h : (10 : UInt8) ∉ a) (r : List UInt8) : (a ++ 10 :: r).takeWhile (· != 10) = a := by
 induction a with
 | nil => simp
 | cons x a ih =>
  have hx : x ≠ 10 := fun e => h (by simp [e])
  simp [hx]
  have := ih (fun e => h (by simp [e]))
  simpa using this
theorem drop_line {a : List UInt8} (h : (10 : UInt8) ∉ a) (r : List UInt8) : ((a ++ 10 :: r).dropWhile (· != 10)).drop 1 = r := by
 induction a with
 | nil => simp
 | cons x a ih =>
  have hx : x ≠ 10 := fun e => h (by simp [e])
  simp [hx]
  have := ih (fun e => h (by simp [e]))
  simpa using this
theorem lines_len (l : List UInt8) : (linesOf l).length ≤ l.length := by
 induction hn : l.length using Nat.strongRecOn generalizing l with
 | _ n ih =>
  by_cases h0 : l = []
  · subst h0; simp [linesOf, lns]
  have h1 := tail_lt h0
  have h2 := ih _ (by rw [← hn]; exact h1) _ rfl
  rw [linesOf_cons h0, List.length_cons]
  omega
def ixn : Nat → List (List UInt8) → List (Nat × List UInt8)
 | _, [] => []
 | k, x :: xs => (k, x) :: ixn (k + 1) xs
theorem ixn_map : ∀ (k : Nat) (xs : List (List UInt8)), (ixn k xs).map (·.2) = xs
 | _, [] => rfl
 | k, x :: xs => by simp [ixn, ixn_map (k + 1) xs]
theorem ixn_len (k : Nat) (xs : List (List UInt8)) : (ixn k xs).length = xs.length := by
 have := congrArg List.length (ixn_map k xs)
 simpa using this
theorem cut_ten (l : List UInt8) : (Go.Lib.cut l [10]).1 = l.takeWhile (· != 10) ∧ (Go.Lib.cut l [10]).2.1 = (l.dropWhile (· != 10)).drop 1 := by
 have hi : Go.Lib.index l [10] = Go.Lib.indexByte l 10 := Go.Lib.index_one l 10
 unfold Go.Lib.cut
 rw [hi]
 have hge := Go.Lib.indexByte_ge l 10
 by_cases h : 0 ≤ Go.Lib.indexByte l 10
 · rw [if_pos h]
   obtain ⟨o, ho⟩ := Int.eq_ofNat_of_zero_le h
   obtain ⟨h1, h2⟩ := Go.Lib.indexByte_some ho
   obtain ⟨hol, h1'⟩ := List.getElem?_eq_some_iff.1 h1
   have hd : l = l.take o ++ 10 :: l.drop (o + 1) := by
    conv => lhs; rw [← List.take_append_drop o l, List.drop_eq_getElem_cons hol, h1']
   have hno : (10 : UInt8) ∉ l.take o := by
    intro hm
    obtain ⟨k, hk, e⟩ := List.getElem_of_mem hm
    have hk' : k < o := by rw [List.length_take] at hk; omega
    refine h2 k hk' ?_
    rw [List.getElem?_eq_getElem (by omega), ← e, List.getElem_take]
   rw [ho]
   simp only [Int.toNat_natCast, List.length_cons, List.length_nil]
   constructor
   · conv => rhs; rw [hd]
     rw [take_line hno]
   conv => rhs; rw [hd]
   rw [drop_line hno]
 rw [if_neg h]
 have h3 := Go.Lib.indexByte_none (l := l) (c := 10) (by omega)
 have hno : (10 : UInt8) ∉ l := by
  intro hm
  obtain ⟨k, hk, e⟩ := List.getElem_of_mem hm
  exact h3 k (by rw [List.getElem?_eq_getElem hk, e])
 have e1 : l.takeWhile (· != 10) = l := by
  clear h3 hi hge h
  induction l with
  | nil => rfl
  | cons x l ih =>
   have hx : x ≠ 10 := fun e => hno (by simp [e])
   simp only [List.takeWhile_cons, bne_iff_ne, ne_eq, hx, not_false_eq_true, if_true]
   rw [ih (fun e => hno (by simp [e]))]
 have e2 : l.dropWhile (· != 10) = [] := by
  have := List.takeWhile_append_dropWhile (p := (· != (10 : UInt8))) (l := l)
  rw [e1] at this
  simpa using this
 simp only [e1, e2]
 exact ⟨trivial, rfl⟩
def szOf : Value → Nat
 | .string s => s.size
 | _ => 0
theorem szOf_str (l : List UInt8) : szOf (.string ⟨l.toArray⟩) = l.length := by simp [szOf, ByteArray.size]
theorem str_len (l : List UInt8) : (⟨l.toArray⟩ : ByteArray).size = l.length := by simp [ByteArray.size]
set_option maxRecDepth 100000 in
theorem each_in (s : ByteArray) (w : World) : Calls Tryz.prog 150 #[.string s] w fun e w' => e = .returned (.func (.func 180) #[] #[.pointer (some ⟨w.heap.size, 0, none⟩)]) ∧ w' = w.alloc (.cells #[.string s] 9) := by
 go_enter Tryz.func150, Tryz.ntmps150
 go_wp2
 go_ret
 exact ⟨rfl, rfl⟩
abbrev LnS := { x : Nat × List UInt8 // x.2.length ≤ 16384 }
set_option maxRecDepth 100000 in
set_option maxHeartbeats 1000000 in
theorem each1_any (n : Nat) (hn : 1 ≤ n) (l Bs n₀ : Nat) (s : ByteArray) (hs : s.size ≤ 16384) (J Jx : List LnS → World → Prop)
  (hA : ∀ xs W q, J xs W → J xs (World.drewN W q))
  (hY : ∀ pre x W, J pre W → pre.length < (linesOf s.data.toList).length → YieldAt Fence.wide (n - 1) Tryz.prog l #[.int .i64 ((x : LnS).1.1 : Int), .string ⟨x.1.2.toArray⟩] W fun e W' =>
   (e = .returned (.bool true) ∧ J (pre ++ [x]) W' ∧ Below n₀ W W') ∨ (e = .returned (.bool false) ∧ Jx (pre ++ [x]) W'))
  (W : World) (hBs : W.cell? ⟨Bs, 0, none⟩ = some (.string s)) (h0 : J [] W) :
  CallsIn Fence.wide n Tryz.prog 180 #[.func (.yield l) #[] #[], .pointer (some ⟨Bs, 0, none⟩)] W fun e W' => (∃ v, e = .returned v) ∧
   ((∃ ys, ys.map (·.1) = ixn 0 (linesOf s.data.toList) ∧ J ys W') ∨ (∃ pre, (∃ r, ixn 0 (linesOf s.data.toList) = pre.map (·.1) ++ r) ∧ Jx pre W')) := by
 refine callsIn_of_wp Tryz.func180 rfl trivial ?_ rfl
 simp only [Tryz.ntmps180, List.size_toArray, List.length_cons, List.length_nil, Nat.reduceAdd, Nat.reduceSub, Array.replicate_succ, Array.replicate_zero, List.push_toArray, List.append_toArray, List.nil_append, List.cons_append]
 have HS := Ho hs
 gi_wp2_with fail
 refine ⟨trivial, ?_⟩
 refine (callsIn_wide.2 (tooLong_walk s W)).mono ?_
 rintro e w' ⟨rfl, hw⟩
 obtain rfl := hw.symm
 rw [decide_eq_false (by omega : ¬ 1048576 < s.size)]
 dsimp only
 gi_wp2
 gi_loopw [3, 4] (fun v3 v4 wr => ∃ (pre : List LnS) (r : List UInt8), v3 = .string ⟨r.toArray⟩ ∧ v4 = .int .i64 (pre.length : Int) ∧ Hd (ixn 0 (linesOf s.data.toList) = pre.map (·.1) ++ ixn pre.length (linesOf r) ∧ r.length ≤ 16384 ∧ pre.length + r.length ≤ 1048576 ∧ J pre wr))
  (fun v3 _ _ => szOf v3)
 case atStart =>
  refine ⟨[], s.data.toList, rfl, rfl, rfl, ?_, ?_, h0⟩
  · rw [← Go.Lib.size_eq]; exact HS.o
  rw [← Go.Lib.size_eq]; have := HS.o; simp; omega
 case round =>
  obtain ⟨pre, r, rfl, rfl, hI⟩ := hrel
  by_cases hr : r = []
  · subst hr
    gi_wp2
    go_end0
    exact ⟨⟨_, rfl⟩, .inl ⟨pre, by have := hI.o.1; simpa [linesOf, lns, ixn] using this.symm, hI.o.2.2.2⟩⟩
  have e0 : r.isEmpty = false := by
   cases r with
   | nil => exact absurd rfl hr
   | cons a b => rfl
  have HR := Ho (And.intro hr (tail_lt hr))
  clear hr
  gi_wp2_with fail
  refine ⟨trivial, ?_⟩
  refine (callsIn_wide.2 (Cut1_walk ⟨r.toArray⟩ (by rw [str_len]; have := hI.o.2.1; omega) 10 wr)).mono ?_
  rintro e w2 ⟨rfl, q, rfl⟩
  dsimp only
  rw [(cut_ten r).1, (cut_ten r).2]
  have hcons := linesOf_cons HR.o.1
  have hlt2 := HR.o.2
  have hal : (r.takeWhile (· != 10)).length ≤ 16384 := Nat.le_trans (List.takeWhile_sublist _).length_le hI.o.2.1
  generalize r.takeWhile (· != 10) = a at *
  generalize (r.dropWhile (· != 10)).drop 1 = b at *
  have hix : ixn 0 (linesOf s.data.toList) = (pre ++ [(⟨(pre.length, a), hal⟩ : LnS)]).map (fun x : LnS => x.1) ++ ixn (pre.length + 1) (linesOf b) := by
   rw [hI.o.1, hcons]; simp [ixn]
  have hple : pre.length < (linesOf s.data.toList).length := by
   have := congrArg List.length hix
   rw [ixn_len] at this
   rw [this]; simp
  obtain ⟨fn, tmps, assign, body, hy, hR⟩ := hY pre ⟨(pre.length, a), hal⟩ (World.drewN wr q) (hA _ _ _ hI.o.2.2.2) hple
  dsimp only at hy hR
  have HR16 := Ho hI.o.2.1
  have HD := Ho (And.intro hix (And.intro hlt2 hI.o.2.2.1))
  have hwp : IntKind.i64.wrap ((pre.length : Int) + 1) = (pre.length : Int) + 1 := by
   have := hI.o.2.2.1
   simp only [IntKind.wrap, IntKind.signed, IntKind.bits]
   simp
   omega
  clear hix hlt2 hcons hple hI HR
  generalize hpl : pre.length = k at *
  have HPL := Ho hpl
  clear hpl
  gi_wp2
  refine hR.mono ?_
  rintro e W3 (⟨rfl, hJ3, hk3⟩ | ⟨rfl, hJx3⟩)
  · have HJ := Ho (And.intro hJ3 hk3)
    clear hJ3 hk3
    gi_wp2
    go_roundw
    case rel =>
     refine ⟨pre ++ [⟨(k, a), hal⟩], b, rfl, ?_, ?_, ?_, ?_, HJ.o.1⟩
     · simp [HPL.o]
     · rw [HD.o.1]; simp [HPL.o]
     · have := HD.o.2; have := HR16.o; omega
     have := HD.o.2; have := HPL.o; simp; omega
    case measure => rw [szOf_str, szOf_str]; exact HD.o.2.1
  have HJ := Ho hJx3
  clear hJx3
  gi_wp2
  refine bodyPost_ret (results_none rfl _ _ _) rfl ?_
  exact ⟨⟨_, rfl⟩, .inr ⟨_, ⟨_, HD.o.1⟩, HJ.o⟩⟩
theorem each_stops2 (n : Nat) (hn : 1 ≤ n) (Bs n₀ : Nat) (s : ByteArray) (hs : s.size ≤ 16384) (w : World) (hB : Bs < w.heap.size) (hc : w.cell? ⟨Bs, 0, none⟩ = some (.string s)) :
  SeqStopsK Fence.wide n Tryz.prog 180 #[.pointer (some ⟨Bs, 0, none⟩)] (fun x : LnS => #[Value.int .i64 (x.1.1 : Int), .string ⟨x.1.2.toArray⟩]) (Below n₀) (fun ys => ys.map (·.1) = ixn 0 (linesOf s.data.toList)) (fun pre => ∃ r, ixn 0 (linesOf s.data.toList) = pre.map (·.1) ++ r) (linesOf s.data.toList).length w := fun l J Jx W hW hA _ hY h0 =>
 each1_any n hn l Bs n₀ s hs J Jx (fun xs W' q hj => hA xs W' _ none hj ⟨rfl, rfl, rfl, Nat.le_refl _, fun _ _ _ => rfl⟩ (fun r e => by cases e)) hY W ((hW.cell (p := ⟨Bs, 0, none⟩) hB).trans hc) h0
theorem boxed_own {β : Type} (n b : Nat) (t : TypeId) (v : Value) : OwnFrom n (fun (_ : β) W => Boxed W b t v) := by
 intro s W W' row hs hg hr
 refine hs.kept hg ?_
 intro e
 obtain ⟨_, o, ho, hc⟩ := hr b e.symm
 rw [show W.heap[b]? = _ from hs] at ho
 cases ho
 cases hc
theorem run_loadVar_plain {P : Program} (w : World) (a : Addr) (ty : TypeId) (v : Value) (d : TypeDesc) (hc : w.cell? a = some v) (hu : P.underlying ty = some d) (hd : d.isRow = false) : (loadVar ty a).run P w = .ok v w := by
 have hagg : (isAgg ty).run P w = .ok false w := by
  unfold isAgg
  rw [Sem.run_bind, run_underlying hu w]
  cases d <;> simp_all
 simp [loadVar, Sem.run_bind, hagg, hc]
theorem results_cell2 {P : Program} {fn : Func} {q q2 : Tmp} {T T2 : TypeId} (h : fn.results = #[.cell q T, .cell q2 T2]) (tmps : Array Value) (w : World) (b b2 : Nat) (v v2 : Value) {d d2 : TypeDesc}
  (hp : tmps.getD q undef = .pointer (some ⟨b, 0, none⟩)) (hp2 : tmps.getD q2 undef = .pointer (some ⟨b2, 0, none⟩)) (hc : w.cell? ⟨b, 0, none⟩ = some v) (hc2 : w.cell? ⟨b2, 0, none⟩ = some v2) (hu : P.underlying T = some d) (hd : d.isRow = false) (hu2 : P.underlying T2 = some d2) (hd2 : d2.isRow = false) : (results fn tmps).run P w = .ok (.tuple #[v, v2]) w := by
 have hp' : tmps[q]?.getD undef = .pointer (some ⟨b, 0, none⟩) := by simpa using hp
 have hv' : tmps[q2]?.getD undef = .pointer (some ⟨b2, 0, none⟩) := by simpa using hp2
 simp [results, h, hp', hv', asAddr, run_loadVar_plain w _ T v _ hc hu hd, run_loadVar_plain w _ T2 v2 _ hc2 hu2 hd2]
end Go.Proofs.YtehnnlhoajdcaaaGreatDoor
