import Derived.Test.YtaphjbcnnkoffaaGreatDoorLx
import Derived.Test.YtaphjbcnnkoffaaGreatDoorLp
import Derived.Test.YtaphjbcnnkoffaaGreatDoorSn
import Derived.Test.YtaphjbcnnkoffaaGreatDoorHg
import Derived.RangeFuncBox
import Derived.RangeFuncNested
import Derived.RangeFuncBound
import Derived.RangeFuncCalls
import Derived.RangeFuncLeaves
import Derived.RangeFuncWrites
import Derived.OwnWalkIn
import Derived.TacticsInMore
import Derived.LoopNIn
import Derived.LoopIn
namespace Go.Proofs.YtaphjbcnnkoffaaGreatDoor
open Go.RowKit Go.Shelf TextNum
attribute [local go_sem] Oper.semAt_some
def szOf : Value → Nat
  | .string s => s.size
  | _ => 0
theorem szOf_str (l : List UInt8) : szOf (.string ⟨l.toArray⟩) = l.length := by simp [szOf, ByteArray.size]
theorem str_len (l : List UInt8) : (⟨l.toArray⟩ : ByteArray).size = l.length := by simp [ByteArray.size]
set_option maxRecDepth 100000 in
theorem each_in (s : ByteArray) (w : World) : Calls Tryz.prog 78 #[.string s] w fun e w' => e = .returned (.func (.func 108) #[] #[.pointer (some ⟨w.heap.size, 0, none⟩)]) ∧ w' = w.alloc (.cells #[.string s] 9) := by
  go_enter Tryz.func78, Tryz.ntmps78
  go_wp2
  go_ret
  exact ⟨rfl, rfl⟩

set_option maxRecDepth 100000 in
set_option maxHeartbeats 1000000 in
theorem each1_in (n : Nat) (hn : 1 ≤ n) (l Bs n₀ : Nat) (s : ByteArray) (hs : s.size ≤ 1048576) (J Jx : List (Nat × List UInt8) → World → Prop)
    (hA : ∀ xs W q, J xs W → J xs (World.drewN W q))
    (hY : ∀ pre x W, J pre W → pre.length < (linesOf s.data.toList).length → YieldAt Fence.wide (n - 1) Tryz.prog l #[.int .i64 ((x : Nat × List UInt8).1 : Int), .string ⟨x.2.toArray⟩] W fun e W' =>
      (e = .returned (.bool true) ∧ J (pre ++ [x]) W' ∧ Below n₀ W W') ∨ (e = .returned (.bool false) ∧ Jx (pre ++ [x]) W'))
    (W : World) (hBs : W.cell? ⟨Bs, 0, none⟩ = some (.string s)) (h0 : J [] W) :
    CallsIn Fence.wide n Tryz.prog 108 #[.func (.yield l) #[] #[], .pointer (some ⟨Bs, 0, none⟩)] W fun e W' => (∃ v, e = .returned v) ∧
      ((∃ ys, ys = ixs 0 (linesOf s.data.toList) ∧ J ys W') ∨ (∃ pre, True ∧ Jx pre W')) := by
  refine callsIn_of_wp Tryz.func108 rfl trivial ?_ rfl
  simp only [Tryz.ntmps108, List.size_toArray, List.length_cons, List.length_nil, Nat.reduceAdd, Nat.reduceSub, Array.replicate_succ, Array.replicate_zero, List.push_toArray, List.append_toArray, List.nil_append, List.cons_append]
  have HS := Hid.of hs
  gi_wp2_with fail
  refine ⟨trivial, ?_⟩
  refine (callsIn_wide.2 (tooLong_walk s W)).mono ?_
  rintro e w' ⟨rfl, hw⟩
  obtain rfl := hw.symm
  rw [decide_eq_false (by omega : ¬ 1048576 < s.size)]
  dsimp only
  gi_wp2
  gi_loopw [3, 4] (fun v3 v4 wr => ∃ (pre : List (Nat × List UInt8)) (r : List UInt8), v3 = .string ⟨r.toArray⟩ ∧ v4 = .int .i64 (pre.length : Int) ∧ Hid (ixs 0 (linesOf s.data.toList) = pre ++ ixs pre.length (linesOf r) ∧ r.length ≤ 1048576 ∧ pre.length + r.length ≤ 1048576 ∧ J pre wr))
    (fun v3 _ _ => szOf v3)
  case atStart =>
    refine ⟨[], s.data.toList, rfl, rfl, rfl, ?_, ?_, h0⟩
    · rw [← Go.Lib.size_eq]; exact HS.out
    · rw [← Go.Lib.size_eq]; simpa using HS.out
  case round =>
    obtain ⟨pre, r, rfl, rfl, hI⟩ := hrel
    by_cases hr : r = []
    · subst hr
      gi_wp2
      go_end0
      exact ⟨⟨_, rfl⟩, .inl ⟨pre, by have := hI.out.1; simpa [linesOf, lns, ixs] using this.symm, hI.out.2.2.2⟩⟩
    · have e0 : r.isEmpty = false := by
        cases r with
        | nil => exact absurd rfl hr
        | cons a b => rfl
      have HR := Hid.of (And.intro hr (tail_lt hr))
      clear hr
      gi_wp2_with fail
      refine ⟨trivial, ?_⟩
      refine (callsIn_wide.2 (Cut1_walk ⟨r.toArray⟩ (by rw [str_len]; have := hI.out.2.1; omega) 10 wr)).mono ?_
      rintro e w2 ⟨rfl, q, rfl⟩
      dsimp only
      rw [(cut_ten r).1, (cut_ten r).2]
      have hcons := linesOf_cons HR.out.1
      have hlt2 := HR.out.2
      generalize r.takeWhile (· != 10) = a at *
      generalize (r.dropWhile (· != 10)).drop 1 = b at *
      have hix : ixs 0 (linesOf s.data.toList) = (pre ++ [(pre.length, a)]) ++ ixs (pre.length + 1) (linesOf b) := by
        rw [hI.out.1, hcons]; simp [ixs]
      have hple : pre.length < (linesOf s.data.toList).length := by
        have := congrArg List.length hix
        rw [ixs_len] at this
        rw [this]; simp
      obtain ⟨fn, tmps, assign, body, hy, hR⟩ := hY pre (pre.length, a) (World.drewN wr q) (hA _ _ _ hI.out.2.2.2) hple
      dsimp only at hy hR
      have HD := Hid.of (And.intro hix (And.intro hlt2 hI.out.2.2.1))
      have hwp : IntKind.i64.wrap ((pre.length : Int) + 1) = (pre.length : Int) + 1 := by
        have := hI.out.2.2.1
        simp only [IntKind.wrap, IntKind.signed, IntKind.bits]
        simp
        omega
      clear hix hlt2 hcons hple hI HR
      generalize hpl : pre.length = k at *
      have HPL := Hid.of hpl
      clear hpl
      gi_wp2
      refine hR.mono ?_
      rintro e W3 (⟨rfl, hJ3, hk3⟩ | ⟨rfl, hJx3⟩)
      · have HJ := Hid.of (And.intro hJ3 hk3)
        clear hJ3 hk3
        gi_wp2
        go_roundw
        case rel =>
          refine ⟨pre ++ [(k, a)], b, rfl, ?_, ?_, ?_, ?_, HJ.out.1⟩
          · simp [HPL.out]
          · rw [HD.out.1]; simp [HPL.out]
          · have := HD.out.2; omega
          · have := HD.out.2; have := HPL.out; simp; omega
        case measure => rw [szOf_str, szOf_str]; exact HD.out.2.1
      · have HJ := Hid.of hJx3
        clear hJx3
        gi_wp2
        refine bodyPost_ret (results_none rfl _ _ _) rfl ?_
        exact ⟨⟨_, rfl⟩, .inr ⟨_, trivial, HJ.out⟩⟩
theorem each_stops (n : Nat) (hn : 1 ≤ n) (Bs n₀ : Nat) (s : ByteArray) (hs : s.size ≤ 1048576) (w : World) (hB : Bs < w.heap.size) (hc : w.cell? ⟨Bs, 0, none⟩ = some (.string s)) :
    SeqStopsK Fence.wide n Tryz.prog 108 #[.pointer (some ⟨Bs, 0, none⟩)] (fun x : Nat × List UInt8 => #[Value.int .i64 (x.1 : Int), .string ⟨x.2.toArray⟩]) (Below n₀) (fun ys => ys = ixs 0 (linesOf s.data.toList)) (fun _ => True) (linesOf s.data.toList).length w := fun l J Jx W hW hA _ hY h0 =>
  each1_in n hn l Bs n₀ s hs J Jx (fun xs W' q hj => hA xs W' _ none hj ⟨rfl, rfl, rfl, Nat.le_refl _, fun _ _ _ => rfl⟩ (fun r e => by cases e)) hY W ((hW.cell (p := ⟨Bs, 0, none⟩) hB).trans hc) h0
/-- a list of texts of one's own -/
def OwnS (w : World) (B : Nat) (v : Value) (xs : List (List UInt8)) : Prop := w.ownsRow B 9 1 v xs.length (xs.map fun l => Value.string ⟨l.toArray⟩)
theorem Tryz.infoStr : (Tryz.prog.info? 9).map (fun i => (i.zero, i.size, i.bytes)) = some (some (.string ⟨#[]⟩), 1, 16) := by kernel_rfl

theorem szero {s : ByteArray} (h : s.size = 0) : s = ⟨#[]⟩ := by
  obtain ⟨d⟩ := s
  have : d.size = 0 := h
  rw [Array.size_eq_zero_iff] at this
  subst this; rfl
theorem eno {s : ByteArray} (h : ¬ s.size = 0) : s.toList.isEmpty = false := by
  rw [Go.Lib.toList_data]
  cases hh : s.data.toList with
  | nil => rw [Go.Lib.size_eq, hh] at h; simp at h
  | cons a b => rfl
theorem suf_ten (l : List UInt8) : Go.Lib.hasSuffix l [10] = decide (l.getLast? = some 10) := by
  rw [Bool.eq_iff_iff, decide_eq_true_eq]
  unfold Go.Lib.hasSuffix
  rw [List.isSuffixOf_iff_suffix]
  constructor
  · rintro ⟨t, rfl⟩; simp
  · intro h
    obtain ⟨t, ht⟩ := List.getLast?_eq_some_iff.1 h
    exact ⟨t, ht.symm⟩

set_option maxRecDepth 100000 in
set_option maxHeartbeats 1000000 in
theorem Lines_main (s : ByteArray) (hs : s.size ≤ 1048576) (he : s.data.toList = [] ∨ s.data.toList.getLast? = some 10) (w : World) : Calls Tryz.prog 50 #[.string s] w fun e w' => ∃ v, e = .returned (.tuple #[v, .int .i64 0]) ∧ OwnS w' w.heap.size v (linesOf s.data.toList) ∧ Up w w' := by
  refine (callsIn_wide (n := 4)).1 ?_
  refine callsIn_of_wp_marks Tryz.func50 rfl trivial ?_ rfl
  simp only [Tryz.ntmps50, List.size_toArray, List.length_cons, List.length_nil, Nat.reduceAdd, Nat.reduceSub, Array.replicate_succ, Array.replicate_zero, List.push_toArray, List.append_toArray, List.nil_append, List.cons_append]
  have HS := Hid.of (And.intro hs he)
  clear he
  gi_wp2_with fail
  refine ⟨trivial, ?_⟩
  refine (callsIn_wide.2 (tooLong_walk s w)).mono ?_
  rintro e w' ⟨rfl, hw⟩
  obtain rfl := hw.symm
  rw [decide_eq_false (by omega : ¬ 1048576 < s.size)]
  dsimp only
  by_cases h0 : s.size = 0
  · obtain rfl := szero h0
    gi_wp2_with fail
    refine ⟨trivial, ?_⟩
    gi_wp2_with fail
    refine ⟨trivial, ?_⟩
    refine (callsIn_wide.2 (Any.strings_Count_one Tryz.lays138 ⟨#[]⟩ 10 w)).mono ?_
    rintro e w' ⟨rfl, hw⟩
    obtain rfl := hw.symm
    dsimp only
    have hcnt : Go.Lib.countByte (⟨#[]⟩ : ByteArray).data.toList 10 ≤ 1048576 := by
      have h1 : Go.Lib.countByte (⟨#[]⟩ : ByteArray).data.toList 10 ≤ (⟨#[]⟩ : ByteArray).data.toList.length := List.count_le_length
      rw [← Go.Lib.size_eq] at h1
      omega
    generalize Go.Lib.countByte (⟨#[]⟩ : ByteArray).data.toList 10 = cn at *
    obtain ⟨i0, hi, hz0, hz1, hz2⟩ := info_parts Tryz.infoStr
    gi_wp2_with (gi_at_make; refine wpListIn_make_own _ rfl _ _ 57 rfl w.heap.size 9 i0 (.string ⟨#[]⟩) 1 Tryz.underlying57 hi hz0 hz1 .i64 .i64 _ cn rfl rfl rfl (by rw [hz2]; omega) (by unfold maxLen; omega) (Nat.le_refl _) ?_; intro w1 hown hgrow)
    refine ⟨trivial, ?_⟩
    refine (callsIn_wide.2 (each_in ⟨#[]⟩ _)).mono ?_
    rintro e w' ⟨rfl, hw⟩
    obtain rfl := hw.symm
    dsimp only
    have hw1 : w.heap.size ≤ w1.heap.size := hgrow.size
    have bO := Boxed.new w1 57 (.slice (some ⟨w.heap.size, 0, none⟩) 0 cn)
    have bN := Boxed.new (w1.alloc (.cells #[.slice (some ⟨w.heap.size, 0, none⟩) 0 cn] 57)) 9 (.string ⟨#[]⟩)
    rw [World.size_alloc] at bN
    have hB0 : Below w.heap.size w ((w1.alloc (.cells #[.slice (some ⟨w.heap.size, 0, none⟩) 0 cn] 57)).alloc (.cells #[.string ⟨#[]⟩] 9)) := (((Below.refl _ w).grown hgrow (Nat.le_refl _) (fun k hk => by cases hk)).alloc (by omega) _).alloc (by simp; omega) _
    have hO0 : ((w1.alloc (.cells #[.slice (some ⟨w.heap.size, 0, none⟩) 0 cn] 57)).alloc (.cells #[.string ⟨#[]⟩] 9)).ownsRow w.heap.size 9 1 (.slice (some ⟨w.heap.size, 0, none⟩) 0 cn) 0 [] := (hown.alloc _).alloc _
    have hsz3 : ((w1.alloc (.cells #[.slice (some ⟨w.heap.size, 0, none⟩) 0 cn] 57)).alloc (.cells #[.string ⟨#[]⟩] 9)).heap.size = w1.heap.size + 2 := by simp
    have HX := Hid.of (And.intro (bO.alloc (.cells #[.string ⟨#[]⟩] 9)) (And.intro hO0 hB0))
    have HC := Hid.of bN.cell
    rw [World.size_alloc]
    generalize ((w1.alloc (.cells #[.slice (some ⟨w.heap.size, 0, none⟩) 0 cn] 57)).alloc (.cells #[.string ⟨#[]⟩] 9)) = W3 at *
    clear bO bN hB0 hO0 hown hgrow
    gi_wp2_with fail
    refine wpIn_rangeFunc_ownG rfl (by decide) (gf := 108) (lb := #[.pointer (some ⟨w1.heap.size + 1, 0, none⟩)]) rfl trivial (enters_of Tryz.func108 (by kernel_rfl) rfl)
      (each_stops 3 (by decide) (w1.heap.size + 1) w.heap.size ⟨#[]⟩ hs W3 (by omega) HC.out) belowK_t (belowK_b (by omega)) (Below.refl _ _) (fun _ => rfl)
      (fun (pre : List (Nat × List UInt8)) W => (∃ v, Boxed W w1.heap.size 57 v ∧ W.ownsRow w.heap.size 9 1 v pre.length (pre.map fun x => Value.string ⟨x.2.toArray⟩) ∧ True) ∧ Below w.heap.size w W)
      (fun _ _ _ => False)
      (OwnFrom.and (Own.from (holdsRow_own w.heap.size w1.heap.size 57 9 1 (fun pre : List (Nat × List UInt8) => pre.length) (fun pre => pre.map fun x => Value.string ⟨x.2.toArray⟩) (fun _ _ => True)) _) (ownFrom_below (Nat.le_refl _) (by omega)))
      (fun _ _ _ _ _ hs _ _ => hs)
      ⟨⟨_, HX.out.1, HX.out.2.1, trivial⟩, HX.out.2.2⟩
      (fun x => { tmps := #[.string ⟨#[]⟩, undef, .slice none 0 0, .int .i64 0, .pointer (some ⟨w1.heap.size, 0, none⟩), undef, .string ⟨x.2.toArray⟩, .string ⟨#[]⟩, .bool false, .string ⟨#[]⟩, .bool false, .bool false, undef, undef, undef, .bool false, .string ⟨#[]⟩, .int .i64 (cn : Int), .slice (some ⟨w.heap.size, 0, none⟩) 0 cn, .string ⟨#[]⟩, .func (.func 108) #[] #[.pointer (some ⟨w1.heap.size + 1, 0, none⟩)], .int .i64 (x.1 : Int), .string ⟨x.2.toArray⟩, undef, undef, undef, undef, undef], defers := [] }) ?assign ?body ?done ?stop
    case assign =>
      intro l x W K hK
      gi_wp2
      exact hK
    case body =>
      rintro l pre x W _ hlt
      exact absurd hlt (by simp [linesOf, lns])
    case done =>
      rintro D ys W hD rfl ⟨⟨v, hv, hrow, _⟩, hB⟩ hK
      have hc := hv.cell
      have hrow' : W.ownsRow w.heap.size 9 1 v (linesOf (⟨#[]⟩ : ByteArray).data.toList).length ((linesOf (⟨#[]⟩ : ByteArray).data.toList).map fun l => Value.string ⟨l.toArray⟩) := by
        have e1 := ixs_map 0 (linesOf (⟨#[]⟩ : ByteArray).data.toList)
        have e2 := ixs_len 0 (linesOf (⟨#[]⟩ : ByteArray).data.toList)
        rw [e2] at hrow
        have e3 : ((ixs 0 (linesOf (⟨#[]⟩ : ByteArray).data.toList)).map fun x => Value.string ⟨x.2.toArray⟩) = (linesOf (⟨#[]⟩ : ByteArray).data.toList).map fun l => Value.string ⟨l.toArray⟩ := by
          conv => rhs; rw [← e1]
          rw [List.map_map]; rfl
        rw [e3] at hrow
        exact hrow
      clear hrow
      gi_wp2
      refine ⟨by simp, .inl ⟨_, _, rfl, run_takeDeferred hK, ?_⟩⟩
      exact ⟨_, results_tmp2 rfl _ _ _, v, rfl, ownsRow_putObj hrow' _ hK rfl, hB.trans (belowK_b (w := w) (Nat.le_refl _) W D _ _ (by omega) hK rfl rfl)⟩
    case stop =>
      rintro D c pre W _ _ h _
      exact h.elim
  · have e0 := eno h0
    have hsf : Go.Lib.hasSuffix s.data.toList (⟨#[10]⟩ : ByteArray).data.toList = true := by
      rw [show (⟨#[10]⟩ : ByteArray).data.toList = [10] from rfl, suf_ten]
      rcases HS.out.2 with h | h
      · rw [Go.Lib.size_eq, h] at h0; simp at h0
      · exact decide_eq_true h
    have HSF := Hid.of hsf
    clear h0 hsf
    gi_wp2_with fail
    refine ⟨trivial, ?_⟩
    refine (callsIn_wide.2 (Any.strings_HasSuffix Tryz.lays100 s ⟨#[10]⟩ w (by omega))).mono ?_
    rintro e w' ⟨rfl, hw⟩
    obtain rfl := hw.symm
    rw [HSF.out]
    dsimp only
    gi_wp2_with fail
    refine ⟨trivial, ?_⟩
    refine (callsIn_wide.2 (Any.strings_Count_one Tryz.lays138 s 10 w)).mono ?_
    rintro e w' ⟨rfl, hw⟩
    obtain rfl := hw.symm
    dsimp only
    have hcnt : Go.Lib.countByte s.data.toList 10 ≤ 1048576 := by
      have h1 : Go.Lib.countByte s.data.toList 10 ≤ s.data.toList.length := List.count_le_length
      rw [← Go.Lib.size_eq] at h1
      omega
    generalize Go.Lib.countByte s.data.toList 10 = cn at *
    obtain ⟨i0, hi, hz0, hz1, hz2⟩ := info_parts Tryz.infoStr
    gi_wp2_with (gi_at_make; refine wpListIn_make_own _ rfl _ _ 57 rfl w.heap.size 9 i0 (.string ⟨#[]⟩) 1 Tryz.underlying57 hi hz0 hz1 .i64 .i64 _ cn rfl rfl rfl (by rw [hz2]; omega) (by unfold maxLen; omega) (Nat.le_refl _) ?_; intro w1 hown hgrow)
    refine ⟨trivial, ?_⟩
    refine (callsIn_wide.2 (each_in s _)).mono ?_
    rintro e w' ⟨rfl, hw⟩
    obtain rfl := hw.symm
    dsimp only
    have hw1 : w.heap.size ≤ w1.heap.size := hgrow.size
    have bO := Boxed.new w1 57 (.slice (some ⟨w.heap.size, 0, none⟩) 0 cn)
    have bN := Boxed.new (w1.alloc (.cells #[.slice (some ⟨w.heap.size, 0, none⟩) 0 cn] 57)) 9 (.string s)
    rw [World.size_alloc] at bN
    have hB0 : Below w.heap.size w ((w1.alloc (.cells #[.slice (some ⟨w.heap.size, 0, none⟩) 0 cn] 57)).alloc (.cells #[.string s] 9)) := (((Below.refl _ w).grown hgrow (Nat.le_refl _) (fun k hk => by cases hk)).alloc (by omega) _).alloc (by simp; omega) _
    have hO0 : ((w1.alloc (.cells #[.slice (some ⟨w.heap.size, 0, none⟩) 0 cn] 57)).alloc (.cells #[.string s] 9)).ownsRow w.heap.size 9 1 (.slice (some ⟨w.heap.size, 0, none⟩) 0 cn) 0 [] := (hown.alloc _).alloc _
    have hsz3 : ((w1.alloc (.cells #[.slice (some ⟨w.heap.size, 0, none⟩) 0 cn] 57)).alloc (.cells #[.string s] 9)).heap.size = w1.heap.size + 2 := by simp
    have HX := Hid.of (And.intro (bO.alloc (.cells #[.string s] 9)) (And.intro hO0 hB0))
    have HC := Hid.of bN.cell
    rw [World.size_alloc]
    generalize ((w1.alloc (.cells #[.slice (some ⟨w.heap.size, 0, none⟩) 0 cn] 57)).alloc (.cells #[.string s] 9)) = W3 at *
    clear bO bN hB0 hO0 hown hgrow
    gi_wp2_with fail
    refine wpIn_rangeFunc_ownG rfl (by decide) (gf := 108) (lb := #[.pointer (some ⟨w1.heap.size + 1, 0, none⟩)]) rfl trivial (enters_of Tryz.func108 (by kernel_rfl) rfl)
      (each_stops 3 (by decide) (w1.heap.size + 1) w.heap.size s hs W3 (by omega) HC.out) belowK_t (belowK_b (by omega)) (Below.refl _ _) (fun _ => rfl)
      (fun (pre : List (Nat × List UInt8)) W => (∃ v, Boxed W w1.heap.size 57 v ∧ W.ownsRow w.heap.size 9 1 v pre.length (pre.map fun x => Value.string ⟨x.2.toArray⟩) ∧ True) ∧ Below w.heap.size w W)
      (fun _ _ _ => False)
      (OwnFrom.and (Own.from (holdsRow_own w.heap.size w1.heap.size 57 9 1 (fun pre : List (Nat × List UInt8) => pre.length) (fun pre => pre.map fun x => Value.string ⟨x.2.toArray⟩) (fun _ _ => True)) _) (ownFrom_below (Nat.le_refl _) (by omega)))
      (fun _ _ _ _ _ hs _ _ => hs)
      ⟨⟨_, HX.out.1, HX.out.2.1, trivial⟩, HX.out.2.2⟩
      (fun x => { tmps := #[.string s, undef, .slice none 0 0, .int .i64 0, .pointer (some ⟨w1.heap.size, 0, none⟩), undef, .string ⟨x.2.toArray⟩, .string s, .bool false, .string s, .bool true, .bool true, .string s, .bool true, .bool false, .bool false, .string s, .int .i64 (cn : Int), .slice (some ⟨w.heap.size, 0, none⟩) 0 cn, .string s, .func (.func 108) #[] #[.pointer (some ⟨w1.heap.size + 1, 0, none⟩)], .int .i64 (x.1 : Int), .string ⟨x.2.toArray⟩, undef, undef, undef, undef, undef], defers := [] }) ?assign ?body ?done ?stop
    case assign =>
      intro l x W K hK
      gi_wp2
      exact hK
    case body =>
      rintro l pre x W ⟨⟨v, hv, hrow, _⟩, hB⟩ hlt
      have hll := lines_len s.data.toList
      rw [← Go.Lib.size_eq] at hll
      have hc := hv.cell
      gi_wp2_with (gi_at_builtin; refine wpListIn_append_own _ rfl _ _ 57 rfl w.heap.size 9 i0 (.string ⟨#[]⟩) 1 16 Tryz.underlying57 hi hz0 hz1 hz2 rfl (by decide) _ _ _ rfl (hrow.alloc _) ⟨W.heap.size, 0, none⟩ 1 1 [.string ⟨x.2.toArray⟩] rfl rfl (cell_one_new _ _ _) (by simp [Value.oneCell']) (by unfold maxLen; omega) (by omega) (by have := hB.size; simp; omega) ?_; intro v' w2 hown' hgrow' _; obtain ⟨g', cap', rfl⟩ := ownsRow_succ hown'; obtain ⟨hv1, hv2, hr2, hk2, hb2⟩ := hv.appended (by decide) hrow hB.size hw1 hown' hgrow'; have hc1 := hv1.cell; have hf1 := hv1.frozen)
      exact ⟨hk2.from _, hb2, ⟨_, hv2, by simpa using hr2, trivial⟩, hB.trans hb2⟩
    case done =>
      rintro D ys W hD rfl ⟨⟨v, hv, hrow, _⟩, hB⟩ hK
      have hc := hv.cell
      have hrow' : W.ownsRow w.heap.size 9 1 v (linesOf s.data.toList).length ((linesOf s.data.toList).map fun l => Value.string ⟨l.toArray⟩) := by
        have e1 := ixs_map 0 (linesOf s.data.toList)
        have e2 := ixs_len 0 (linesOf s.data.toList)
        rw [e2] at hrow
        have e3 : ((ixs 0 (linesOf s.data.toList)).map fun x => Value.string ⟨x.2.toArray⟩) = (linesOf s.data.toList).map fun l => Value.string ⟨l.toArray⟩ := by
          conv => rhs; rw [← e1]
          rw [List.map_map]; rfl
        rw [e3] at hrow
        exact hrow
      clear hrow
      gi_wp2
      refine ⟨by simp, .inl ⟨_, _, rfl, run_takeDeferred hK, ?_⟩⟩
      exact ⟨_, results_tmp2 rfl _ _ _, v, rfl, ownsRow_putObj hrow' _ hK rfl, hB.trans (belowK_b (w := w) (Nat.le_refl _) W D _ _ (by omega) hK rfl rfl)⟩
    case stop =>
      rintro D c pre W _ _ h _
      exact h.elim
set_option maxRecDepth 100000 in
set_option maxHeartbeats 1000000 in
theorem Lines_walk (s : ByteArray) (w : World) : Calls Tryz.prog 50 #[.string s] w fun e w' => ∃ v, e = .returned (.tuple #[v, .int .i64 (lnE s.data.toList)]) ∧ (lnE s.data.toList ≠ 0 → v = .slice none 0 0) ∧ (lnE s.data.toList = 0 → OwnS w' w.heap.size v (linesOf s.data.toList)) ∧ Up w w' := by
  by_cases h1 : 1048576 < s.size
  · have HE := Hid.of (show lnE s.data.toList = 2 from if_pos (by rw [← Go.Lib.size_eq]; exact h1))
    go_enter Tryz.func50, Tryz.ntmps50
    go_wp2_with fail
    refine (tooLong_walk s w).mono ?_
    rintro e w' ⟨rfl, hw⟩
    obtain rfl := hw.symm
    rw [decide_eq_true h1]
    dsimp only
    go_wp2
    go_ret2
    rw [HE.out]
    exact ⟨_, rfl, fun _ => rfl, fun h => by omega, Up.refl _⟩
  · have hs : s.size ≤ 1048576 := by omega
    have hsl : ¬ 1048576 < s.data.toList.length := by rw [← Go.Lib.size_eq]; exact h1
    by_cases he : s.data.toList = [] ∨ s.data.toList.getLast? = some 10
    · have hE : lnE s.data.toList = 0 := by unfold lnE; rw [if_neg hsl, if_pos he]
      refine (Lines_main s hs he w).mono ?_
      rintro e w' ⟨v, rfl, h2, h3⟩
      rw [hE]
      exact ⟨v, rfl, fun h => absurd rfl h, fun _ => h2, h3⟩
    · have HE := Hid.of (show lnE s.data.toList = 64 by unfold lnE; rw [if_neg hsl, if_neg he])
      have e0 : s.toList.isEmpty = false := eno (fun h => he (.inl (by rw [Go.Lib.size_eq] at h; exact List.length_eq_zero_iff.1 h)))
      have HSF := Hid.of (show Go.Lib.hasSuffix s.data.toList (⟨#[10]⟩ : ByteArray).data.toList = false by
        rw [show (⟨#[10]⟩ : ByteArray).data.toList = [10] from rfl, suf_ten]
        exact decide_eq_false fun h => he (.inr h))
      clear he hsl
      go_enter Tryz.func50, Tryz.ntmps50
      go_wp2_with fail
      refine (tooLong_walk s w).mono ?_
      rintro e w' ⟨rfl, hw⟩
      obtain rfl := hw.symm
      rw [decide_eq_false h1]
      dsimp only
      go_wp2_with fail
      refine (Any.strings_HasSuffix Tryz.lays100 s ⟨#[10]⟩ w (by omega)).mono ?_
      rintro e w' ⟨rfl, hw⟩
      obtain rfl := hw.symm
      rw [HSF.out]
      dsimp only
      go_wp2
      go_ret2
      rw [HE.out]
      exact ⟨_, rfl, fun _ => rfl, fun h => by omega, Up.refl _⟩
end Go.Proofs.YtaphjbcnnkoffaaGreatDoor
