import Derived.Test.YtbdbpmeaiiodgaaDoorMa
import Derived.OwnWalk
import Derived.Deep.MidRow
import Derived.Deep.RegionHeld3
import Derived.Test.YtbdbpmeaiiodgaaDoorMb
namespace Go.Proofs.YtbdbpmeaiiodgaaDoor
section
open Go.RowKit TextNum
/-- nothing, or a list of one's own -/
def OwnO (w : World) (B : Nat) (v : Value) (l : List UInt8) : Prop := (v = .slice none 0 0 ∧ l = []) ∨ OwnN w B v l
def wr7 (x : UInt8) (l : List UInt8) (i : Nat) : List UInt8 := List.replicate i x ++ l.drop i
theorem wr7_len {x : UInt8} {l : List UInt8} {i : Nat} (h : i ≤ l.length) : (wr7 x l i).length = l.length := by simp [wr7]; omega
theorem wr7_set {x : UInt8} {l : List UInt8} {i : Nat} (h : i < l.length) : (wr7 x l i).set i x = wr7 x l (i + 1) := by
  unfold wr7
  rw [List.drop_eq_getElem_cons h, List.set_append, if_neg (by simp), List.length_replicate, Nat.sub_self, List.set_cons_zero, List.replicate_succ', List.append_assoc]
  rfl
/-- two lists of bytes side by side -/
def Two (w : World) (b : Nat) (v1 v2 : Value) (x : UInt8) (n1 n2 : Nat) : Prop := w.cell? ⟨b, 0, none⟩ = some v1 ∧ w.cell? ⟨b, 1, none⟩ = some v2 ∧ Sl w v1 (List.replicate n1 x) ∧ Sl w v2 (List.replicate n2 x)
theorem Two.up {w w' : World} {b : Nat} {v1 v2 : Value} {x : UInt8} {n1 n2 : Nat} (h : Two w b v1 v2 x n1 n2) (u : Up w w') : Two w' b v1 v2 x n1 n2 := ⟨u.cell h.1, u.cell h.2.1, h.2.2.1.up u, h.2.2.2.up u⟩
theorem grown_trans {a b c : World} {row : Option Nat} (h : a.grownBy b row) (k : b.grownBy c row) : a.grownBy c row := ⟨k.os.trans h.os, k.tape.trans h.tape, k.output.trans h.output, Nat.le_trans h.size k.size, fun i hi hr => (k.block i (Nat.lt_of_lt_of_le hi h.size) hr).trans (h.block i hi hr)⟩
theorem grown_up {a b c : World} {row : Option Nat} (h : a.grownBy b row) (k : Up b c) : a.grownBy c row := ⟨k.os.trans h.os, k.tape.trans h.tape, k.output.trans h.output, Nat.le_trans h.size k.size, fun i hi hr => (k.block i (Nat.lt_of_lt_of_le hi h.size)).trans (h.block i hi hr)⟩
theorem grown_refl (a : World) (row : Option Nat) : a.grownBy a row := ⟨rfl, rfl, rfl, Nat.le_refl _, fun _ _ _ => rfl⟩
set_option maxRecDepth 100000 in
set_option maxHeartbeats 2000000 in
theorem owned_walk (B : Nat) (v : Value) (l : List UInt8) (x : UInt8) (w : World) (h : OwnO w B v l) (hl : l.length ≤ 1048576) :
    Calls Tryd.prog 33 #[v, .int .u8 (x.toNat : Int)] w fun e w' => ∃ b v2, e = .returned (.slice (some ⟨b, 0, none⟩) 2 2) ∧ w.heap.size ≤ b ∧ Two w' b v v2 x l.length (l.length + 1) ∧ w.grownBy w' v.ownBlock := by
  rcases h with ⟨rfl, rfl⟩ | h
  · go_enter Tryd.func33, Tryd.ntmps33
    go_wp2
    go_loopw [5] (fun v5 wr => v5 = .int .i64 0 ∧ wr = w) (fun _ _ => 0)
    case atStart => exact ⟨rfl, rfl⟩
    case round =>
      obtain ⟨rfl, hwr⟩ := hrel
      obtain rfl : w = wr := hwr.symm
      clear hwr
      go_wp2_with (with_reducible show wpList _ _ _ ({ dst := _, op := Op.call { callee := Callee.builtin Builtin.append, args := _, argTypes := _ }, type := _, pos := _, after := _, guard := _ } :: _) _ _; refine Shut.out ?_)
      show wpList _ _ _ _ _ _
      refine wpList_app1 rfl _ _ rfl w.heap.size (.slice none 0 0) [] [x] rfl (World.ownsRow_nil _ _ 5 1) 1 rfl (by simp) (Nat.le_refl _) ?_
      intro v7 w7 hO7 b7
      simp only [Act.put, List.setIfInBounds_toArray, List.set_cons_zero, List.set_cons_succ]
      obtain ⟨a7, c7, rfl⟩ := hO7.len
      have H7 := Hid.of (And.intro hO7.sl b7)
      clear hO7 b7
      go_wp2
      go_ret
      have hu : Up w7 (w7.alloc (Obj.cells #[.slice none 0 0, .slice a7 1 c7] 22)) := (Up.refl w7).alloc _
      refine ⟨w7.heap.size, _, rfl, H7.out.2.size, ⟨?_, ?_, ⟨none, 0, rfl, Nat.le_refl _, .inl rfl⟩, by exact H7.out.1.up hu⟩, ?_⟩
      · rw [World.cell?_alloc_at _ _ _ _ rfl]; rfl
      · rw [World.cell?_alloc_at _ _ _ _ rfl]; rfl
      · have h1 : Up w w7 := H7.out.2
        exact grown_up (grown_up (grown_refl w _) h1) hu
  · obtain ⟨g, off, cap, rfl⟩ := h.len
    obtain ⟨n, hn⟩ : ∃ n, l.length = n := ⟨_, rfl⟩
    rw [hn] at h hl ⊢
    have HO := Hid.of h
    clear h
    go_enter Tryd.func33, Tryd.ntmps33
    go_wp2
    go_loopw [5] (fun v5 wr => ∃ i : Nat, v5 = .int .i64 (i : Int) ∧ i ≤ n ∧ Hid (OwnN wr B (.slice (some ⟨g, off, none⟩) n cap) (wr7 x l i) ∧ w.grownBy wr (some g))) (fun v5 _ => n - (intOf v5).toNat)
    case atStart => exact ⟨0, rfl, by omega, by simpa [wr7] using HO.out, grown_refl w _⟩
    case round =>
      obtain ⟨i, rfl, hi, hI⟩ := hrel
      by_cases hlt : i < n
      · have hlt' : (i : Int) < (n : Int) := by omega
        obtain ⟨k1, k2, k3⟩ := hI.out.1.store i (by rw [wr7_len (by omega)]; omega) x
        rw [wr7_set (by omega)] at k3
        have HN := Hid.of (And.intro k3 (grown_trans hI.out.2 (grown_set wr ⟨g, off + i, none⟩ (.int .u8 (x.toNat : Int)))))
        clear k3
        go_wp2
        go_roundw
        case rel => exact ⟨i + 1, by go_num, by omega, by exact HN⟩
        case measure => simp [intOf]; omega
      · have hlt' : ¬ (i : Int) < (n : Int) := by omega
        have hin : i = l.length := by omega
        have hfull : wr7 x l i = List.replicate n x := by unfold wr7; rw [hin, hn]; simp [← hn]
        have HI := Hid.of (show OwnN wr B (.slice (some ⟨g, off, none⟩) n cap) (List.replicate n x) ∧ w.grownBy wr (some g) from by rw [← hfull]; exact hI.out)
        have hI2 := Hid.of hI.out.2
        clear hfull hin hI
        go_wp2_with (with_reducible show wpList _ _ _ ({ dst := _, op := Op.call { callee := Callee.builtin Builtin.append, args := _, argTypes := _ }, type := _, pos := _, after := _, guard := _ } :: _) _ _; refine Shut.out ?_)
        show wpList _ _ _ _ _ _
        refine wpList_appN rfl _ _ rfl B _ (List.replicate n x) x rfl (by exact HI.out.1.up ((Up.refl wr).alloc _)) ⟨wr.heap.size, 0, none⟩ 1 rfl (by rw [World.cell?_alloc_at _ _ _ _ rfl]; rfl) (by simp; omega) ?_
        intro v7 w7 h1 h2 h3 h4
        simp only [Act.put, List.setIfInBounds_toArray, List.set_cons_zero, List.set_cons_succ]
        obtain ⟨a7, n7, c7, rfl⟩ : ∃ a7 n7 c7, v7 = .slice a7 n7 c7 := by
          obtain ⟨a7, c7, e, _⟩ := h1
          exact ⟨_, _, _, e⟩
        have H7 := Hid.of (And.intro h1 (And.intro h2 (grown_trans (grown_up hI2.out ((Up.refl wr).alloc _)) h3)))
        clear h1 h2 h3 h4
        go_wp2
        go_ret
        have hu : Up w7 (w7.alloc (Obj.cells #[.slice (some ⟨g, off, none⟩) n cap, .slice a7 n7 c7] 22)) := (Up.refl w7).alloc _
        refine ⟨w7.heap.size, _, rfl, H7.out.2.2.size, ⟨?_, ?_, by exact H7.out.2.1.up hu, by have := H7.out.1.up hu; rw [← List.replicate_succ'] at this; exact this⟩, grown_up H7.out.2.2 hu⟩
        · rw [World.cell?_alloc_at _ _ _ _ rfl]; rfl
        · rw [World.cell?_alloc_at _ _ _ _ rfl]; rfl
set_option maxRecDepth 100000 in
set_option maxHeartbeats 2000000 in
theorem marked_walk (b : Nat) (v1 v2 : Value) (x : UInt8) (n1 n2 c : Nat) (w : World) (h : Two w b v1 v2 x n1 n2) (h1 : n1 ≤ 1048577) (h2 : n2 ≤ 1048577) :
    Calls Tryd.prog 34 #[.slice (some ⟨b, 0, none⟩) 2 c, .int .u8 (x.toNat : Int)] w fun e w' => e = .returned (.bool true) ∧ w' = w := by
  obtain ⟨k1, k2, s1, s2⟩ := h
  obtain ⟨m, HM⟩ : ∃ m : Nat → Nat, Hid (∀ i, i < 2 → ∃ a c, w.cell? ⟨b, i, none⟩ = some (.slice a (m i) c) ∧ m i ≤ 1048577 ∧ ∀ j, j < m i → ∃ g off, a = some ⟨g, off, none⟩ ∧ w.cell? ⟨g, off + j, none⟩ = some (.int .u8 (x.toNat : Int))) := by
    have key : ∀ (v : Value) (n : Nat), Sl w v (List.replicate n x) → ∃ a c, v = .slice a n c ∧ ∀ j, j < n → ∃ g off, a = some ⟨g, off, none⟩ ∧ w.cell? ⟨g, off + j, none⟩ = some (.int .u8 (x.toNat : Int)) := fun v n hs => by
      obtain ⟨a, c, e, _, h⟩ := hs
      refine ⟨a, c, by simpa using e, fun j hj => ?_⟩
      rcases h with h | ⟨g, off, e2, _, h⟩
      · have := congrArg List.length h
        simp at this
        omega
      · refine ⟨g, off, e2, ?_⟩
        have := h j (by simpa using hj)
        simpa using this
    obtain ⟨a1, c1, rfl, f1⟩ := key v1 n1 s1
    obtain ⟨a2, c2, rfl, f2⟩ := key v2 n2 s2
    refine ⟨fun i => if i = 0 then n1 else n2, Hid.of (fun i hi => ?_)⟩
    match i, hi with
    | 0, _ => exact ⟨a1, c1, k1, h1, f1⟩
    | 1, _ => exact ⟨a2, c2, k2, h2, f2⟩
  clear k1 k2 s1 s2
  go_enter Tryd.func34, Tryd.ntmps34
  go_wp2
  go_loopw [5, 6] (fun v5 _ wr => ∃ i : Nat, v5 = .int .i64 (i : Int) ∧ i ≤ 2 ∧ wr = w) (fun v5 _ _ => 2 - (intOf v5).toNat)
  case atStart => exact ⟨0, rfl, by omega, rfl⟩
  case round =>
    obtain ⟨i, rfl, hi, hwr⟩ := hrel
    obtain rfl : w = wr := hwr.symm
    clear hwr
    by_cases hlt : i < 2
    · have hlt' : (i : Int) < 2 := by omega
      obtain ⟨a, c2, kc, hm, hc⟩ := HM.out i hlt
      have HC := Hid.of hc
      clear hc
      generalize m i = n at *
      go_wp2
      go_loopw [6] (fun v6 wr => ∃ j : Nat, v6 = .int .i64 (j : Int) ∧ j ≤ n ∧ wr = w) (fun v6 _ => n - (intOf v6).toNat)
      case atStart => exact ⟨0, rfl, by omega, rfl⟩
      case round =>
        obtain ⟨j, rfl, hj, hwr⟩ := hrel
        obtain rfl : w = wr := hwr.symm
        clear hwr
        by_cases hjl : j < n
        · have hjl' : (j : Int) < (n : Int) := by omega
          obtain ⟨g, off, rfl, hcell⟩ := HC.out j hjl
          go_wp2
          go_roundw
          case rel => exact ⟨j + 1, by go_num, by omega, by simp⟩
          case measure => simp [intOf]; omega
        · have hjl' : ¬ (j : Int) < (n : Int) := by omega
          go_wp2
          go_roundw
          case rel => exact ⟨i + 1, by go_num, by omega, by simp⟩
          case measure => simp [intOf]; omega
    · have hlt' : ¬ (i : Int) < 2 := by omega
      go_wp2
      go_ret
      exact ⟨rfl, rfl⟩
end
section
open Go.RowKit TextNum
/-- what is lent: the bytes and two hundred marked ones -/
def tl7 : List UInt8 := (List.range 200).map fun k => UInt8.ofNat (192 + k)
def lt7 (l : List UInt8) : List UInt8 := l ++ tl7
def st7 (T : List UInt8) (i : Nat) : List UInt8 := T.take i ++ List.replicate (T.length - i) 0
theorem tl7_len : tl7.length = 200 := by simp [tl7]
theorem lt7_len (l : List UInt8) : (lt7 l).length = l.length + 200 := by rw [lt7, List.length_append, tl7_len]
theorem st7_len {T : List UInt8} {i : Nat} (h : i ≤ T.length) : (st7 T i).length = T.length := by simp [st7]; omega
theorem st7_set {T : List UInt8} {i : Nat} (h : i < T.length) : (st7 T i).set i T[i] = st7 T (i + 1) := by
  unfold st7
  have hl : (T.take i).length = i := by rw [List.length_take]; omega
  rw [show T.length - i = (T.length - (i + 1)) + 1 by omega, List.replicate_succ, List.set_append, if_neg (by omega), hl, Nat.sub_self, List.set_cons_zero, List.take_succ_eq_append_getElem h, List.append_assoc]
  rfl
theorem lt7_lo {l : List UInt8} {i : Nat} (h : i < l.length) (h' : i < (lt7 l).length) : (lt7 l)[i] = l[i] := @List.getElem_append_left _ i l tl7 h h'
theorem lt7_hi {l : List UInt8} {i : Nat} (h : l.length ≤ i) (h' : i < (lt7 l).length) : (((lt7 l)[i]).toNat : Int) = (192 + ((i - l.length : Nat) : Int)) % 256 := by
  have h2 : i - l.length < 200 := by rw [lt7_len] at h'; omega
  have e : (lt7 l)[i] = UInt8.ofNat (192 + (i - l.length)) := (@List.getElem_append_right _ l tl7 i h h').trans (by simp [tl7])
  rw [e, UInt8.toNat_ofNat']
  omega
/-- make([]byte, n) -/
theorem wpList_mkF {ops : Array Oper} {rest : List Oper} {o : Oper} {a : Act} {w : World} {Q : Exit → Act → World → Prop} (hg : o.guard = none) (l c : Operand) (hop : o.op = Op.makeSlice 22 l c)
    (kl kc : IntKind) (C : Int) (n : Nat) (hl : a.eval l = .int kl C) (hc : a.eval c = .int kc C) (hC : C = (n : Int)) (hn : n ≤ 140737488355328)
    (hK : ∀ w', Own w' w.heap.size (.slice (some ⟨w.heap.size, 0, none⟩) n n) (List.replicate n 0) → Up w w' → wpList Tryd.prog ops Q rest (a.put o.dst (.slice (some ⟨w.heap.size, 0, none⟩) n n)) w') : wpList Tryd.prog ops Q (o :: rest) a w := by
  obtain ⟨i0, hi, hz0, hz1, hz2⟩ := info_parts Tryd.info8
  refine wpList_make_full w hg l c 22 hop w.heap.size 5 i0 (.int .u8 0) 1 Tryd.underlying22 hi hz0 hz1 kl kc C C n hl hc hC hC (by rw [hz2]; omega) (by unfold maxLen; omega) (Nat.le_refl _) ?_
  intro w' h1 h2
  refine hK w' ?_ ((Below.refl _ w).grown h2 (Nat.le_refl _) (fun k hk => by cases hk))
  rw [show (Value.int .u8 0).cells = #[Value.int .u8 0] from rfl, Nat.mul_one, toList_madeCells_one] at h1
  simpa [Own, cb] using h1
set_option maxRecDepth 100000 in
set_option maxHeartbeats 2000000 in
theorem lent_walk7 (v : Value) (l : List UInt8) (w : World) (hS : Sl w v l) (hl : l.length ≤ 1048576) :
    Calls Tryd.prog 35 #[v] w fun e w' => ∃ b, e = .returned (.slice (some ⟨b, 0, none⟩) (l.length + 200) (l.length + 200)) ∧ OwnN w' w.heap.size (.slice (some ⟨b, 0, none⟩) (l.length + 200) (l.length + 200)) (lt7 l) ∧ Up w w' := by
  obtain ⟨a, c, rfl, hc, hd⟩ := hS
  have HC := Hid.of (show ∀ i (h : i < l.length), ∃ b off, a = some ⟨b, off, none⟩ ∧ w.cell? ⟨b, off + i, none⟩ = some (.int .u8 (l[i].toNat : Int)) from fun i h => by
    rcases hd with rfl | ⟨b, off, e, _, hd⟩
    · cases h
    · exact ⟨b, off, e, hd i h⟩)
  clear hd
  have HLO := Hid.of (fun i h h' => lt7_lo (l := l) (i := i) h h')
  have HHI := Hid.of (fun i h h' => lt7_hi (l := l) (i := i) h h')
  have HTL := Hid.of (lt7_len l)
  have HST := Hid.of (show st7 (lt7 l) (l.length + 200) = lt7 l by unfold st7; rw [← lt7_len]; simp)
  obtain ⟨n, hn⟩ : ∃ n, l.length = n := ⟨_, rfl⟩
  rw [hn] at hc hl HTL HST ⊢
  have hw1 : IntKind.i64.wrap ((n : Int) + 200) = ((n + 200 : Nat) : Int) := by simp only [IntKind.wrap, IntKind.signed, IntKind.bits]; simp; omega
  go_enter Tryd.func35, Tryd.ntmps35
  go_wp2_with (with_reducible show wpList _ _ _ ({ dst := _, op := Op.makeSlice 22 _ _, type := _, pos := _, after := _, guard := _ } :: _) _ _; refine Shut.out ?_)
  show wpList _ _ _ _ _ _
  refine wpList_mkF rfl _ _ rfl _ _ _ (n + 200) rfl rfl (by omega) (by omega) ?_
  intro w1 hO1 u1
  simp only [Act.put, List.setIfInBounds_toArray, List.set_cons_zero, List.set_cons_succ]
  have H1 := Hid.of (show OwnN w1 w.heap.size (.slice (some ⟨w.heap.size, 0, none⟩) (n + 200) (n + 200)) (st7 (lt7 l) 0) ∧ Up w w1 from ⟨by
    have := hO1.n (by simp)
    unfold st7
    rw [List.take_zero, List.nil_append, Nat.sub_zero, HTL.out]
    exact this, u1⟩)
  clear hO1 u1
  generalize hb0 : w.heap.size = b0 at *
  go_wp2
  go_loopw [4] (fun v4 wr => ∃ i : Nat, v4 = .int .i64 (i : Int) ∧ i ≤ n ∧ Hid (OwnN wr b0 (.slice (some ⟨b0, 0, none⟩) (n + 200) (n + 200)) (st7 (lt7 l) i) ∧ Up w wr)) (fun v4 _ => n - (intOf v4).toNat)
  case atStart => exact ⟨0, rfl, by omega, H1⟩
  case round =>
    obtain ⟨i, rfl, hi, hI⟩ := hrel
    by_cases hlt : i < n
    · have hlt' : (i : Int) < (n : Int) := by omega
      have hlt2 : (i : Int) < ((n + 200 : Nat) : Int) := by omega
      have hT : i < (lt7 l).length := by rw [HTL.out]; omega
      obtain ⟨k1, k2, k3⟩ := hI.out.1.store i (by rw [st7_len (by omega)]; exact hT) (lt7 l)[i]
      rw [st7_set hT, HLO.out i (by omega) hT] at k3
      obtain ⟨b, off, rfl, kc⟩ := HC.out i (by omega)
      have kc' := hI.out.2.cell kc
      have HN := Hid.of (And.intro k3 (Below.setCell (p := ⟨b0, 0 + i, none⟩) hI.out.2 (by rw [hb0]; exact Nat.le_refl _) (.int .u8 ((l[i]'(by omega)).toNat : Int))))
      rw [Nat.zero_add] at k1 k2 HN
      generalize (l[i]'(by omega)) = y at *
      clear k3 kc
      go_wp2
      go_roundw
      case rel => exact ⟨i + 1, by go_num, by omega, by exact HN⟩
      case measure => simp [intOf]; omega
    · have hlt' : ¬ (i : Int) < (n : Int) := by omega
      obtain rfl : i = n := by omega
      go_wp2
      go_loopw [5] (fun v5 wr => ∃ j : Nat, v5 = .int .i64 (j : Int) ∧ i ≤ j ∧ j ≤ i + 200 ∧ Hid (OwnN wr b0 (.slice (some ⟨b0, 0, none⟩) (i + 200) (i + 200)) (st7 (lt7 l) j) ∧ Up w wr)) (fun v5 _ => i + 200 - (intOf v5).toNat)
      case atStart => exact ⟨i, rfl, by omega, by omega, hI⟩
      case round =>
        clear hI
        obtain ⟨j, rfl, hij, hj, hI⟩ := hrel
        by_cases hjl : j < i + 200
        · have hjl' : (j : Int) < ((i + 200 : Nat) : Int) := by omega
          have hjl2 : (j : Int) < (i : Int) + 200 := by omega
          have hT : j < (lt7 l).length := by rw [HTL.out]; omega
          obtain ⟨k1, k2, k3⟩ := hI.out.1.store j (by rw [st7_len (by omega)]; exact hT) (lt7 l)[j]
          rw [st7_set hT] at k3
          have hv := HHI.out j (by omega) hT
          have HN := Hid.of (And.intro k3 (Below.setCell (p := ⟨b0, 0 + j, none⟩) hI.out.2 (by rw [hb0]; exact Nat.le_refl _) (.int .u8 (((lt7 l)[j]).toNat : Int))))
          rw [Nat.zero_add] at k1 k2 HN
          clear k3
          have hw2 : IntKind.i64.wrap (192 + (j : Int)) = 192 + (j : Int) := by simp only [IntKind.wrap, IntKind.signed, IntKind.bits]; simp; omega
          have hw3 : IntKind.i64.wrap (192 + (j : Int) - (i : Int)) = 192 + (j : Int) - (i : Int) := by simp only [IntKind.wrap, IntKind.signed, IntKind.bits]; simp; omega
          have hw4 : IntKind.u8.wrap (192 + (j : Int) - (i : Int)) = (((lt7 l)[j]).toNat : Int) := by rw [hv]; simp only [IntKind.wrap, IntKind.signed, IntKind.bits]; simp; omega
          clear hv
          generalize (lt7 l)[j] = y at *
          go_wp2
          go_roundw
          case rel => exact ⟨j + 1, by go_num, by omega, by omega, by exact HN⟩
          case measure => simp [intOf]; omega
        · have hjl' : ¬ (j : Int) < ((i + 200 : Nat) : Int) := by omega
          have hjl2 : ¬ (j : Int) < (i : Int) + 200 := by omega
          have HJ := Hid.of (show OwnN wr b0 (.slice (some ⟨b0, 0, none⟩) (i + 200) (i + 200)) (lt7 l) from by
            have := hI.out.1
            rwa [show j = i + 200 by omega, HST.out] at this)
          go_wp2
          go_ret
          exact ⟨b0, rfl, HJ.out, hI.out.2⟩
set_option maxRecDepth 100000 in
set_option maxHeartbeats 2000000 in
theorem whole_walk (v1 v2 : Value) (l : List UInt8) (w : World) (h1 : Sl w v1 (lt7 l)) (h2 : Sl w v2 l) (hl : l.length ≤ 1048576) :
    Calls Tryd.prog 37 #[v1, v2] w fun e w' => e = .returned (.bool true) ∧ Up w w' := by
  have HS0 := Hid.of (And.intro h1 h2)
  clear h1 h2
  obtain ⟨q, HQ⟩ : ∃ q : ByteArray, Hid (vs (lt7 l) = .string q) := ⟨_, Hid.of rfl⟩
  go_enter Tryd.func37, Tryd.ntmps37
  go_wp2_with fail
  refine wp_region_held_drew (S := fun wx => Sl wx v1 (lt7 l) ∧ Sl wx v2 l ∧ Up w wx) (by kernel_rfl) ⟨HS0.out.1.up (Up.refl w).drew, HS0.out.2.up (Up.refl w).drew, (Up.refl w).drew⟩ (fun hS => ?_)
  refine wpAnyH_take (i := 0) (oi := { dst := some 5, op := Go.Op.move (Go.Operand.tmp 0), type := 22, pos := "law.go:134", after := #[], guard := none }) (v := v1) rfl (by kernel_rfl) (by kernel_rfl) (by kernel_rfl) (fun _ _ _ h => h) (Or.inl ⟨by kernel_rfl, ?_⟩) hS ?_
  · intro w5 hSw
    clear hSw hS
    go_simp
  simp only [Act.put, List.setIfInBounds_toArray, List.set_cons_zero, List.set_cons_succ]
  refine wpAnyH_take (i := 1) (oi := { dst := some 6, op := Go.Op.convert 22 9 (Go.Operand.tmp 5), type := 9, pos := "law.go:134", after := #[{ on := 0, ground := Go.Ground.data }], guard := none }) (v := .string q) rfl (by kernel_rfl) (by kernel_rfl) (by kernel_rfl) (fun _ _ _ h => h) (Or.inl ⟨by kernel_rfl, ?_⟩) hS ?_
  · intro w5 hSw
    have h := conv_sl hSw.1
    rw [HQ.out] at h
    clear hSw hS
    go_simp
  simp only [Act.put, List.setIfInBounds_toArray, List.set_cons_zero, List.set_cons_succ]
  refine wpAnyH_take (i := 2) (oi := { dst := some 7, op := Go.Op.move (Go.Operand.tmp 1), type := 22, pos := "law.go:134", after := #[], guard := none }) (v := v2) rfl (by kernel_rfl) (by kernel_rfl) (by kernel_rfl) (fun _ _ _ h => h) (Or.inl ⟨by kernel_rfl, ?_⟩) hS ?_
  · intro w5 hSw
    clear hSw hS
    go_simp
  simp only [Act.put, List.setIfInBounds_toArray, List.set_cons_zero, List.set_cons_succ]
  refine wpAnyH_ready (rs := [3]) (by kernel_rfl) (by simp) ?_
  refine AllReadyH.cons (o := { dst := some 8, op := Go.Op.call { callee := Go.Callee.value (Go.Operand.func 35), args := #[Go.Operand.tmp 7], argTypes := #[22] }, type := 22, pos := "law.go:134", after := #[{ on := 2, ground := Go.Ground.data }], guard := none }) rfl (fun K hK => ?_) AllReadyH.nil
  rw [if_pos (by kernel_rfl)]
  go_simp
  refine (lent_walk7 v2 l _ hS.2.1 hl).mono ?_
  rintro e w5 ⟨b, rfl, hO, u5⟩
  obtain ⟨n5, hn5⟩ : ∃ n5, l.length + 200 = n5 := ⟨_, rfl⟩
  rw [hn5] at hO ⊢
  have HO := Hid.of hO.sl
  dsimp only
  have hS2 := And.intro (hS.1.up u5) (And.intro (hS.2.1.up u5) (hS.2.2.trans u5))
  clear hS u5 hO
  refine hK.out _ _ hS2 (fun hS => ?_)
  clear hK hS2 K
  refine wpAnyH_ready (rs := [4]) (by kernel_rfl) (by simp) ?_
  refine AllReadyH.cons (o := { dst := some 9, op := Go.Op.convert 22 9 (Go.Operand.tmp 8), type := 9, pos := "law.go:134", after := #[{ on := 3, ground := Go.Ground.data }], guard := none }) rfl (fun K hK => ?_) AllReadyH.nil
  rw [if_pos (by kernel_rfl)]
  have hcv := conv_sl HO.out
  rw [HQ.out] at hcv
  go_simp
  clear hcv
  refine hK.out _ _ hS (fun hS2 => ?_)
  clear hK hS2 K
  refine wpAnyH_take (i := 5) (oi := { dst := some 10, op := Go.Op.binOp Go.BinOp.eql 9 (Go.Operand.tmp 6) (Go.Operand.tmp 9) 9, type := 4, pos := "law.go:134", after := #[{ on := 1, ground := Go.Ground.data }, { on := 4, ground := Go.Ground.data }], guard := none }) (v := .bool true) rfl (by kernel_rfl) (by kernel_rfl) (by kernel_rfl) (fun _ _ _ h => h) (Or.inl ⟨by kernel_rfl, ?_⟩) hS ?_
  · intro w5 hSw
    clear hSw hS
    go_simp
  simp only [Act.put, List.setIfInBounds_toArray, List.set_cons_zero, List.set_cons_succ]
  refine wpAnyH_take (i := 6) (oi := { dst := some 4, op := Go.Op.assign (Go.Operand.tmp 10), type := 4, pos := "law.go:134", after := #[{ on := 5, ground := Go.Ground.data }, { on := 3, ground := Go.Ground.chain }, { on := 0, ground := Go.Ground.phase }, { on := 1, ground := Go.Ground.phase }, { on := 2, ground := Go.Ground.phase }, { on := 3, ground := Go.Ground.phase }, { on := 4, ground := Go.Ground.phase }, { on := 5, ground := Go.Ground.phase }], guard := none }) (v := .bool true) rfl (by kernel_rfl) (by kernel_rfl) (by kernel_rfl) (fun _ _ _ h => h) (Or.inl ⟨by kernel_rfl, ?_⟩) hS ?_
  · intro w5 hSw
    clear hSw hS
    go_simp
  simp only [Act.put, List.setIfInBounds_toArray, List.set_cons_zero, List.set_cons_succ]
  have HU := Hid.of hS.2.2
  clear hS
  refine wpAnyH_done (by kernel_rfl) ?_ _
  go_wp2
  go_ret
  exact ⟨rfl, HU.out⟩
end
section
open Go.RowKit TextNum
/-- a signature's copy, with its two marked bytes behind -/
def Sp (w : World) (B : Nat) (q : Sg × Option Addr × Nat) : Prop := ∃ g, q.2.1 = some ⟨g, 0, none⟩ ∧ q.2.2 = q.1.bytes.length + 2 ∧ OwnN w B (.slice (some ⟨g, 0, none⟩) (q.1.bytes.length + 2) (q.1.bytes.length + 2)) (q.1.bytes ++ [193, 194])
theorem Sp.up {w w' : World} {B : Nat} {q : Sg × Option Addr × Nat} (h : Sp w B q) (u : Up w w') : Sp w' B q := by
  obtain ⟨g, h1, h2, h3⟩ := h
  exact ⟨g, h1, h2, h3.up u⟩
theorem Sp.by {w w' : World} {B : Nat} {q : Sg × Option Addr × Nat} {row : Option Nat} (h : Sp w B q) (hg : w.grownBy w' row) (hr : ∀ r, row = some r → (qv q).ownBlock ≠ some r) : Sp w' B q := by
  obtain ⟨g, h1, h2, h3⟩ := h
  refine ⟨g, h1, h2, h3.by hg (fun r e hb => hr r e ?_)⟩
  unfold qv
  rw [h1]
  exact hb
theorem own_base8 {w : World} {B B' : Nat} {v : Value} {l : List UInt8} (h : OwnN w B v l) (hB : B' ≤ B) : OwnN w B' v l := by
  obtain ⟨g, off, cap, cur, fr, e, hb, r⟩ := h
  exact ⟨g, off, cap, cur, fr, e, Nat.le_trans hB hb, r⟩
/-- copies -/
def Cp (w : World) (B : Nat) (v : Value) (ss : List Sg) : Prop := ∃ qs, OwnG w B 42 v qs ∧ qs.map (·.1) = ss ∧ ∀ q, q ∈ qs → Sp w B q
theorem Cp.up {w w' : World} {B : Nat} {v : Value} {ss : List Sg} (h : Cp w B v ss) (u : Up w w') : Cp w' B v ss := by
  obtain ⟨qs, h1, h2, h3⟩ := h
  exact ⟨qs, h1.up u, h2, fun q hq => (h3 q hq).up u⟩
set_option maxRecDepth 100000 in
set_option maxHeartbeats 4000000 in
theorem copied_walk (v : Value) (ss : List Sg) (w : World) (hS : SigL w v ss) (hl : ss.length ≤ 1048576) (hb : ∀ s, s ∈ ss → s.bytes.length ≤ 1048576) :
    Calls Tryd.prog 31 #[v] w fun e w' => ∃ v', e = .returned v' ∧ Cp w' w.heap.size v' ss ∧ Up w w' := by
  obtain ⟨a, c, rfl, hc, hg⟩ := hS.get
  have HG := Hid.of hg
  have HBd := Hid.of hb
  clear hS hg hb
  obtain ⟨n, hn⟩ : ∃ n, ss.length = n := ⟨_, rfl⟩
  rw [hn] at hc hl ⊢
  go_enter Tryd.func31, Tryd.ntmps31
  go_wp2
  go_loopw [3, 4] (fun v3 v4 wr => ∃ i : Nat, v4 = .int .i64 (i : Int) ∧ i ≤ n ∧ Hid (∃ qs, OwnG wr w.heap.size 42 v3 qs ∧ qs.map (·.1) = ss.take i ∧ (∀ q, q ∈ qs → Sp wr w.heap.size q) ∧ Up w wr)) (fun _ v4 _ => n - (intOf v4).toNat)
  case atStart => exact ⟨0, rfl, by omega, [], ownG_nil7 _ _ _, by simp, by simp, Up.refl _⟩
  case round =>
    obtain ⟨i, rfl, hi, hI⟩ := hrel
    obtain ⟨qs, hI1, hI2, hI3, hI4⟩ := hI.out
    have HI := Hid.of (And.intro hI1 (And.intro hI2 (And.intro hI3 hI4)))
    clear hI hI1 hI2 hI3 hI4
    by_cases hlt : i < n
    rotate_left
    · have hlt' : ¬ (i : Int) < (n : Int) := by omega
      have hin : i = ss.length := by omega
      go_wp2
      go_ret
      exact ⟨_, rfl, ⟨qs, by exact HI.out.1, by rw [HI.out.2.1, hin, List.take_length], HI.out.2.2.1⟩, HI.out.2.2.2⟩
    have hlt' : (i : Int) < (n : Int) := by omega
    have hltS : i < ss.length := by omega
    obtain ⟨b1, o1, rfl, p1, m1, d1, k1, k2, k3, rfl, k5⟩ := HG.out i hltS
    have k3' := HI.out.2.2.2.cell k3
    have HSl := Hid.of (k5.up HI.out.2.2.2)
    have HX := Hid.of (List.take_succ_eq_append_getElem hltS)
    have HBl := Hid.of (HBd.out _ (List.getElem_mem hltS))
    have HK0 := Hid.of (And.intro k1 (And.intro k2 k3))
    clear k1 k2 k3 k5
    generalize ss[i] = s at *
    obtain ⟨m, HM⟩ : ∃ m, Hid (s.bytes.length = m) := ⟨_, Hid.of rfl⟩
    rw [HM.out] at k3' HSl HBl HK0
    have hm := HBl.out
    have hw2 : IntKind.i64.wrap ((m : Int) + 2) = ((m + 2 : Nat) : Int) := by simp only [IntKind.wrap, IntKind.signed, IntKind.bits]; simp; omega
    have HTL := Hid.of (show (s.bytes ++ [193, 194]).length = m + 2 by rw [List.length_append, HM.out]; rfl)
    go_wp2_with (with_reducible show wpList _ _ _ ({ dst := _, op := Op.makeSlice 22 _ _, type := _, pos := _, after := _, guard := _ } :: _) _ _; refine Shut.out ?_)
    show wpList _ _ _ _ _ _
    refine wpList_mkF rfl _ _ rfl _ _ _ (m + 2) rfl rfl (by omega) (by omega) ?_
    intro w5 hO5 u5
    simp only [Act.put, List.setIfInBounds_toArray, List.set_cons_zero, List.set_cons_succ]
    have H5 := Hid.of (show OwnN w5 wr.heap.size (.slice (some ⟨wr.heap.size, 0, none⟩) (m + 2) (m + 2)) (st7 (s.bytes ++ [193, 194]) 0) ∧ Up wr w5 from ⟨by
      have := hO5.n (by simp)
      unfold st7
      rw [List.take_zero, List.nil_append, Nat.sub_zero, HTL.out]
      exact this, u5⟩)
    clear hO5 u5
    generalize hb0 : wr.heap.size = b0 at *
    obtain ⟨p1', hcell⟩ : ∃ f : Nat → UInt8, Hid (∀ j, j < m → (∃ b off, p1 = some ⟨b, off, none⟩ ∧ wr.cell? ⟨b, off + j, none⟩ = some (.int .u8 ((f j).toNat : Int))) ∧ (s.bytes ++ [193, 194])[j]? = some (f j)) := by
      refine ⟨fun j => s.bytes.getD j 0, Hid.of (fun j hj => ?_)⟩
      have hj' : j < s.bytes.length := by rw [HM.out]; exact hj
      obtain ⟨a', c', e, _, hd⟩ := HSl.out
      injection e with e1 _ _
      rcases hd with h | ⟨b, off, e2, _, hd⟩
      · rw [h] at hj'; cases hj'
      · refine ⟨⟨b, off, by rw [e1, e2], ?_⟩, ?_⟩
        · show _ = some (Value.int .u8 ((s.bytes.getD j 0).toNat : Int))
          rw [hd j hj', List.getD_eq_getElem?_getD, List.getElem?_eq_getElem hj']; rfl
        · show _ = some (s.bytes.getD j 0)
          rw [List.getElem?_append_left hj', List.getD_eq_getElem?_getD, List.getElem?_eq_getElem hj']; rfl
    clear k3'
    go_wp2
    go_loopw [7] (fun v7 wq => ∃ j : Nat, v7 = .int .i64 (j : Int) ∧ j ≤ m ∧ Hid (OwnN wq b0 (.slice (some ⟨b0, 0, none⟩) (m + 2) (m + 2)) (st7 (s.bytes ++ [193, 194]) j) ∧ Up wr wq)) (fun v7 _ => m - (intOf v7).toNat)
    case atStart => exact ⟨0, rfl, by omega, H5⟩
    case round =>
      obtain ⟨j, rfl, hj, hJ⟩ := hrel
      by_cases hjl : j < m
      · have hjl' : (j : Int) < (m : Int) := by omega
        have hjl2 : (j : Int) < ((m + 2 : Nat) : Int) := by omega
        have hjl3 : (j : Int) < (m : Int) + 2 := by omega
        obtain ⟨⟨b, off, rfl, kc⟩, ke⟩ := hcell.out j hjl
        have hT : j < (s.bytes ++ [193, 194]).length := by rw [HTL.out]; omega
        obtain ⟨r1, r2, r3⟩ := hJ.out.1.store j (by rw [st7_len (by omega)]; exact hT) (p1' j)
        rw [show p1' j = (s.bytes ++ [193, 194])[j] from by rw [List.getElem?_eq_getElem hT] at ke; injection ke with ke; exact ke.symm, st7_set hT, show (s.bytes ++ [193, 194])[j] = p1' j from by rw [List.getElem?_eq_getElem hT] at ke; injection ke] at r3
        have kc' := hJ.out.2.cell kc
        have kf := hJ.out.2.cell (HI.out.2.2.2.cell HK0.out.2.2)
        have HN := Hid.of (And.intro r3 (Below.setCell (p := ⟨b0, 0 + j, none⟩) hJ.out.2 (by rw [hb0]; exact Nat.le_refl _) (.int .u8 ((p1' j).toNat : Int))))
        rw [Nat.zero_add] at r1 r2 HN
        clear r3 kc ke
        generalize p1' j = y at *
        go_wp2
        go_roundw
        case rel => exact ⟨j + 1, by go_num, by omega, by exact HN⟩
        case measure => simp [intOf]; omega
      · have hjl' : ¬ (j : Int) < (m : Int) := by omega
        obtain rfl : j = m := by omega
        have hT0 : j < (s.bytes ++ [193, 194]).length := by rw [HTL.out]; omega
        have hT1 : j + 1 < (s.bytes ++ [193, 194]).length := by rw [HTL.out]; omega
        have e0 : (s.bytes ++ [193, 194])[j] = 193 := by rw [List.getElem_append_right (by rw [HM.out]; exact Nat.le_refl _)]; simp [HM.out]
        have e1 : (s.bytes ++ [193, 194])[j + 1] = 194 := by rw [List.getElem_append_right (by rw [HM.out]; omega)]; simp [HM.out]
        obtain ⟨r1, r2, r3⟩ := hJ.out.1.store j (by rw [st7_len (by omega)]; exact hT0) (s.bytes ++ [193, 194])[j]
        rw [st7_set hT0] at r3
        obtain ⟨t1, t2, t3⟩ := r3.store (j + 1) (by rw [st7_len (by omega)]; exact hT1) (s.bytes ++ [193, 194])[j + 1]
        rw [st7_set hT1] at t3
        have uu := Below.setCell (p := ⟨b0, 0 + (j + 1), none⟩) (Below.setCell (p := ⟨b0, 0 + j, none⟩) hJ.out.2 (by rw [hb0]; exact Nat.le_refl _) (.int .u8 (((s.bytes ++ [193, 194])[j]).toNat : Int))) (by rw [hb0]; exact Nat.le_refl _) (.int .u8 (((s.bytes ++ [193, 194])[j + 1]).toNat : Int))
        rw [e0, e1] at uu t3
        rw [e0] at t1 t2
        rw [Nat.zero_add] at r1 r2 t1 t2 t3 uu
        rw [Nat.zero_add] at t1 t2 t3 uu
        rw [show ((193 : UInt8).toNat : Int) = 193 from rfl] at t1 t2 t3 uu
        rw [show ((194 : UInt8).toNat : Int) = 194 from rfl] at t3 uu
        have HN := Hid.of (And.intro t3 uu)
        clear r3 t3 uu e0 e1
        have hw1 : IntKind.i64.wrap ((j : Int) + 1) = ((j + 1 : Nat) : Int) := by simp only [IntKind.wrap, IntKind.signed, IntKind.bits]; simp; omega
        have q1 : (j : Int) < ((j + 2 : Nat) : Int) := by omega
        have q2 : ((j + 1 : Nat) : Int) < ((j + 2 : Nat) : Int) := by omega
        have q3 : (j : Int) < (j : Int) + 2 := by omega
        have q4 : (j : Int) + 1 < (j : Int) + 2 := by omega
        go_wp2_with fail
        clear r1 r2 t1 t2
        generalize (wr.setCell ⟨b0, j, none⟩ (.int .u8 193)).setCell ⟨b0, j + 1, none⟩ (.int .u8 194) = w6 at *
        have hfull : st7 (s.bytes ++ [193, 194]) (j + 1 + 1) = s.bytes ++ [193, 194] := by
          unfold st7
          rw [List.take_of_length_le (by rw [HTL.out]; exact Nat.le_refl _), HTL.out, Nat.sub_self]
          simp
        have HO6 := HN.out.1
        rw [hfull] at HO6
        have u6 := HN.out.2
        have HN := Hid.of (And.intro HO6 (And.intro u6 (HI.out.2.2.2.trans u6)))
        have hz6 : b0 ≤ w6.heap.size := by rw [← hb0]; exact u6.size
        clear hfull HO6 u6 HSl hcell HTL hw1 hw2 q1 q2 q3 q4 H5
        have c1 := HN.out.2.2.cell HK0.out.1
        have c2 := HN.out.2.2.cell HK0.out.2.1
        have hjj : (j : Int) ≤ (j : Int) + 2 := by omega
        have hjj2 : (j : Int) ≤ ((j + 2 : Nat) : Int) := by omega
        refine wp_region_held_drew (S := fun w2 => w2.cell? ⟨b1, o1 + i * 3, none⟩ = some (.string s.name) ∧ w2.cell? ⟨b1, o1 + i * 3 + 1, none⟩ = some (.int .u32 (s.hash : Int)) ∧ Up w w2) (by kernel_rfl) ⟨c1, c2, HN.out.2.2.drew⟩ (fun hS => ?_)
        clear c1 c2
        refine wpAnyH_take (i := 0) (oi := { dst := some 46, op := Go.Op.move (Go.Operand.tmp 3), type := 39, pos := "law.go:48", after := #[], guard := none }) (v := u3) rfl (by kernel_rfl) (by kernel_rfl) (by kernel_rfl) (fun _ _ _ h => h) (Or.inl ⟨by kernel_rfl, ?_⟩) hS ?_
        · intro w5 hSw
          clear hSw hS
          go_simp
        simp only [Act.put, List.setIfInBounds_toArray, List.set_cons_zero, List.set_cons_succ]
        refine wpAnyH_take (i := 1) (oi := { dst := some 47, op := Go.Op.move (Go.Operand.tmp 0), type := 39, pos := "law.go:48", after := #[], guard := none }) (v := .slice (some ⟨b1, o1, none⟩) n c) rfl (by kernel_rfl) (by kernel_rfl) (by kernel_rfl) (fun _ _ _ h => h) (Or.inl ⟨by kernel_rfl, ?_⟩) hS ?_
        · intro w5 hSw
          clear hSw hS
          go_simp
        simp only [Act.put, List.setIfInBounds_toArray, List.set_cons_zero, List.set_cons_succ]
        refine wpAnyH_take (i := 2) (oi := { dst := some 48, op := Go.Op.move (Go.Operand.tmp 4), type := 3, pos := "law.go:48", after := #[], guard := none }) (v := .int .i64 (i : Int)) rfl (by kernel_rfl) (by kernel_rfl) (by kernel_rfl) (fun _ _ _ h => h) (Or.inl ⟨by kernel_rfl, ?_⟩) hS ?_
        · intro w5 hSw
          clear hSw hS
          go_simp
        simp only [Act.put, List.setIfInBounds_toArray, List.set_cons_zero, List.set_cons_succ]
        refine wpAnyH_take (i := 3) (oi := { dst := some 49, op := Go.Op.indexAddr 39 (Go.Operand.tmp 47) (Go.Operand.tmp 48), type := 0, pos := "law.go:48", after := #[{ on := 1, ground := Go.Ground.data }, { on := 2, ground := Go.Ground.data }], guard := none }) (v := .pointer (some ⟨b1, o1 + i * 3, none⟩)) rfl (by kernel_rfl) (by kernel_rfl) (by kernel_rfl) (fun _ _ _ h => h) (Or.inl ⟨by kernel_rfl, ?_⟩) hS ?_
        · intro w5 hSw
          clear hSw hS
          go_simp
        simp only [Act.put, List.setIfInBounds_toArray, List.set_cons_zero, List.set_cons_succ]
        refine wpAnyH_take (i := 4) (oi := { dst := some 50, op := Go.Op.fieldAddr 42 (Go.Operand.tmp 49) 0, type := 0, pos := "law.go:48", after := #[{ on := 3, ground := Go.Ground.data }], guard := none }) (v := .pointer (some ⟨b1, o1 + i * 3, none⟩)) rfl (by kernel_rfl) (by kernel_rfl) (by kernel_rfl) (fun _ _ _ h => h) (Or.inl ⟨by kernel_rfl, ?_⟩) hS ?_
        · intro w5 hSw
          clear hSw hS
          go_simp
        simp only [Act.put, List.setIfInBounds_toArray, List.set_cons_zero, List.set_cons_succ]
        refine wpAnyH_take (i := 5) (oi := { dst := some 51, op := Go.Op.load 9 (Go.Operand.tmp 50), type := 9, pos := "law.go:48", after := #[{ on := 4, ground := Go.Ground.data }], guard := none }) (v := .string s.name) rfl (by kernel_rfl) (by kernel_rfl) (by kernel_rfl) (fun _ _ _ h => h) (Or.inl ⟨by kernel_rfl, ?_⟩) hS ?_
        · intro w5 hSw
          have h1 := hSw.1
          have h2 := hSw.2.1
          clear hSw
          go_simp
        simp only [Act.put, List.setIfInBounds_toArray, List.set_cons_zero, List.set_cons_succ]
        refine wpAnyH_take (i := 6) (oi := { dst := some 52, op := Go.Op.move (Go.Operand.tmp 0), type := 39, pos := "law.go:48", after := #[], guard := none }) (v := .slice (some ⟨b1, o1, none⟩) n c) rfl (by kernel_rfl) (by kernel_rfl) (by kernel_rfl) (fun _ _ _ h => h) (Or.inl ⟨by kernel_rfl, ?_⟩) hS ?_
        · intro w5 hSw
          clear hSw hS
          go_simp
        simp only [Act.put, List.setIfInBounds_toArray, List.set_cons_zero, List.set_cons_succ]
        refine wpAnyH_take (i := 7) (oi := { dst := some 53, op := Go.Op.move (Go.Operand.tmp 4), type := 3, pos := "law.go:48", after := #[], guard := none }) (v := .int .i64 (i : Int)) rfl (by kernel_rfl) (by kernel_rfl) (by kernel_rfl) (fun _ _ _ h => h) (Or.inl ⟨by kernel_rfl, ?_⟩) hS ?_
        · intro w5 hSw
          clear hSw hS
          go_simp
        simp only [Act.put, List.setIfInBounds_toArray, List.set_cons_zero, List.set_cons_succ]
        refine wpAnyH_take (i := 8) (oi := { dst := some 54, op := Go.Op.indexAddr 39 (Go.Operand.tmp 52) (Go.Operand.tmp 53), type := 0, pos := "law.go:48", after := #[{ on := 6, ground := Go.Ground.data }, { on := 7, ground := Go.Ground.data }], guard := none }) (v := .pointer (some ⟨b1, o1 + i * 3, none⟩)) rfl (by kernel_rfl) (by kernel_rfl) (by kernel_rfl) (fun _ _ _ h => h) (Or.inl ⟨by kernel_rfl, ?_⟩) hS ?_
        · intro w5 hSw
          clear hSw hS
          go_simp
        simp only [Act.put, List.setIfInBounds_toArray, List.set_cons_zero, List.set_cons_succ]
        refine wpAnyH_take (i := 9) (oi := { dst := some 55, op := Go.Op.fieldAddr 42 (Go.Operand.tmp 54) 1, type := 0, pos := "law.go:48", after := #[{ on := 8, ground := Go.Ground.data }], guard := none }) (v := .pointer (some ⟨b1, o1 + i * 3 + 1, none⟩)) rfl (by kernel_rfl) (by kernel_rfl) (by kernel_rfl) (fun _ _ _ h => h) (Or.inl ⟨by kernel_rfl, ?_⟩) hS ?_
        · intro w5 hSw
          clear hSw hS
          go_simp
        simp only [Act.put, List.setIfInBounds_toArray, List.set_cons_zero, List.set_cons_succ]
        refine wpAnyH_take (i := 10) (oi := { dst := some 56, op := Go.Op.load 40 (Go.Operand.tmp 55), type := 40, pos := "law.go:48", after := #[{ on := 9, ground := Go.Ground.data }], guard := none }) (v := .int .u32 (s.hash : Int)) rfl (by kernel_rfl) (by kernel_rfl) (by kernel_rfl) (fun _ _ _ h => h) (Or.inl ⟨by kernel_rfl, ?_⟩) hS ?_
        · intro w5 hSw
          have h1 := hSw.1
          have h2 := hSw.2.1
          clear hSw
          go_simp
        simp only [Act.put, List.setIfInBounds_toArray, List.set_cons_zero, List.set_cons_succ]
        refine wpAnyH_take (i := 11) (oi := { dst := some 57, op := Go.Op.move (Go.Operand.tmp 6), type := 22, pos := "law.go:48", after := #[], guard := none }) (v := .slice (some ⟨b0, 0, none⟩) (j + 2) (j + 2)) rfl (by kernel_rfl) (by kernel_rfl) (by kernel_rfl) (fun _ _ _ h => h) (Or.inl ⟨by kernel_rfl, ?_⟩) hS ?_
        · intro w5 hSw
          clear hSw hS
          go_simp
        simp only [Act.put, List.setIfInBounds_toArray, List.set_cons_zero, List.set_cons_succ]
        refine wpAnyH_take (i := 12) (oi := { dst := some 58, op := Go.Op.move (Go.Operand.tmp 5), type := 3, pos := "law.go:48", after := #[], guard := none }) (v := .int .i64 (j : Int)) rfl (by kernel_rfl) (by kernel_rfl) (by kernel_rfl) (fun _ _ _ h => h) (Or.inl ⟨by kernel_rfl, ?_⟩) hS ?_
        · intro w5 hSw
          clear hSw hS
          go_simp
        simp only [Act.put, List.setIfInBounds_toArray, List.set_cons_zero, List.set_cons_succ]
        refine wpAnyH_take (i := 13) (oi := { dst := some 59, op := Go.Op.slice 22 (Go.Operand.tmp 57) none (some (Go.Operand.tmp 58)) none, type := 22, pos := "law.go:48", after := #[{ on := 11, ground := Go.Ground.data }, { on := 12, ground := Go.Ground.data }], guard := none }) (v := .slice (some ⟨b0, 0, none⟩) j (j + 2)) rfl (by kernel_rfl) (by kernel_rfl) (by kernel_rfl) (fun _ _ _ h => h) (Or.inl ⟨by kernel_rfl, ?_⟩) hS ?_
        · intro w5 hSw
          clear hSw hS
          go_simp <;> (intro h; exact absurd h (by omega))
        simp only [Act.put, List.setIfInBounds_toArray, List.set_cons_zero, List.set_cons_succ]
        refine wpAnyH_take (i := 14) (oi := { dst := some 60, op := Go.Op.build 42 #[(0, Go.Operand.tmp 51), (1, Go.Operand.tmp 56), (2, Go.Operand.tmp 59)], type := 42, pos := "law.go:48", after := #[{ on := 5, ground := Go.Ground.data }, { on := 10, ground := Go.Ground.data }, { on := 13, ground := Go.Ground.data }], guard := none }) (v := .agg #[.string s.name, .int .u32 (s.hash : Int), .slice (some ⟨b0, 0, none⟩) j (j + 2)]) rfl (by kernel_rfl) (by kernel_rfl) (by kernel_rfl) (fun _ _ _ h => h) (Or.inl ⟨by kernel_rfl, ?_⟩) hS ?_
        · intro w5 hSw
          clear hSw hS
          go_simp
        simp only [Act.put, List.setIfInBounds_toArray, List.set_cons_zero, List.set_cons_succ]
        refine wpAnyH_ready (rs := [15]) (by kernel_rfl) (by simp) ?_
        refine AllReadyH.cons (o := { dst := some 61, op := Go.Op.buildSlice 39 1 #[(0, Go.Operand.tmp 60)], type := 39, pos := "law.go:48", after := #[{ on := 14, ground := Go.Ground.data }], guard := none }) rfl (fun K hK => ?_) AllReadyH.nil
        rw [if_pos (by kernel_rfl)]
        go_simp
        have u7 : Up w (w6.alloc (.cells #[.string s.name, .int .u32 (s.hash : Int), .slice (some ⟨b0, 0, none⟩) j (j + 2)] 42)).drew := (HN.out.2.2.alloc _).drew
        have hS2 := And.intro (u7.cell HK0.out.1) (And.intro (u7.cell HK0.out.2.1) u7)
        clear hS u7
        refine hK.out _ _ hS2 (fun hS => ?_)
        clear hK hS2 K
        refine wpAnyH_ready (rs := [16]) (by kernel_rfl) (by simp) ?_
        refine AllReadyH.cons (o := { dst := some 62, op := Go.Op.call { callee := Go.Callee.builtin Go.Builtin.append, args := #[Go.Operand.tmp 46, Go.Operand.tmp 61], argTypes := #[39, 39] }, type := 39, pos := "law.go:48", after := #[{ on := 0, ground := Go.Ground.data }, { on := 15, ground := Go.Ground.data }], guard := none }) rfl (fun K hK => ?_) AllReadyH.nil
        rw [if_pos (by kernel_rfl)]
        have hm2 := HM.out
        have u7 : Up w6 (w6.alloc (.cells #[.string s.name, .int .u32 (s.hash : Int), .slice (some ⟨b0, 0, none⟩) j (j + 2)] 42)).drew := ((Up.refl w6).alloc _).drew
        have hsl : Sl w6 (.slice (some ⟨b0, 0, none⟩) j (j + 2)) s.bytes := by
          have := sl_take HN.out.1.sl (k := j) (by rw [List.length_append]; omega)
          rwa [List.take_append_of_le_length (by omega), List.take_of_length_le (by omega)] at this
        refine wp_appG2 sgT1 (Operand.tmp 46) (Operand.tmp 61) rfl w.heap.size u3 qs (s, some ⟨b0, 0, none⟩, j + 2) rfl (by exact (HI.out.1.up HN.out.2.1).up u7) ⟨w6.heap.size, 0, none⟩ 1 rfl ?_ (by unfold qv; rw [hm2]; exact hsl.up u7) ?_ (by have := congrArg List.length HI.out.2.1; rw [List.length_map, List.length_take] at this; omega) hS.2.2.size ?_
        · intro k u hk
          have := cells_new w6 42 (qc (s, some ⟨b0, 0, none⟩, j + 2)) k u hk
          unfold qc at this
          rw [hm2] at this
          exact (World.cell?_drew _ _).trans this
        · intro b hb
          have hb' : b0 = b := by unfold qv at hb; injection hb
          have h1 := (HN.out.1.lt b0 rfl).2
          refine ⟨Nat.lt_of_lt_of_le (by rw [← hb']; exact h1) u7.size, fun h2 => ?_⟩
          have := (World.ownsRow.lt HI.out.1.1 b h2).2
          rw [hb0] at this
          omega
        intro v7 w7 hO7 b7 g7
        simp only [Act.put, List.setIfInBounds_toArray, List.set_cons_zero, List.set_cons_succ]
        have u8 : Up w w7 := hS.2.2.step (Nat.le_refl _) b7
        have hsp : ∀ q, q ∈ qs ++ [(s, some ⟨b0, 0, none⟩, j + 2)] → Sp w7 w.heap.size q := by
          intro q hq
          rcases List.mem_append.1 hq with hq | hq
          · have h1 := ((HI.out.2.2.1 q hq).up HN.out.2.1).up u7
            exact h1.by g7 (fun r hr hb => ((HI.out.1.2 q hq).2 r hb).2 hr)
          · obtain rfl := List.mem_singleton.1 hq
            have h1 : Sp w6 w.heap.size (s, some ⟨b0, 0, none⟩, j + 2) := ⟨b0, rfl, by simp only; omega, by simp only [hm2]; exact own_base8 HN.out.1 (by rw [← hb0]; exact HI.out.2.2.2.size)⟩
            refine (h1.up u7).by g7 (fun r hr hb => ?_)
            have hb' : b0 = r := by unfold qv at hb; injection hb
            have := (World.ownsRow.lt HI.out.1.1 r hr).2
            rw [hb0] at this
            omega
        have HZ := Hid.of (show ∃ qs, OwnG w7 w.heap.size 42 v7 qs ∧ qs.map (·.1) = ss.take (i + 1) ∧ (∀ q, q ∈ qs → Sp w7 w.heap.size q) ∧ Up w w7 from ⟨qs ++ [(s, some ⟨b0, 0, none⟩, j + 2)], hO7, by rw [HX.out, List.map_append, HI.out.2.1]; rfl, hsp, u8⟩)
        have hS2 := And.intro (u8.cell HK0.out.1) (And.intro (u8.cell HK0.out.2.1) u8)
        clear hS hO7 b7 g7 u7 u8 hsp hsl
        refine hK.out _ _ hS2 (fun hS => ?_)
        clear hK hS2 K
        refine wpAnyH_ready (rs := [17]) (by kernel_rfl) (by simp) ?_
        refine AllReadyH.cons (o := { dst := some 3, op := Go.Op.assign (Go.Operand.tmp 62), type := 39, pos := "law.go:48", after := #[{ on := 16, ground := Go.Ground.data }, { on := 16, ground := Go.Ground.chain }, { on := 0, ground := Go.Ground.phase }, { on := 1, ground := Go.Ground.phase }, { on := 2, ground := Go.Ground.phase }, { on := 3, ground := Go.Ground.phase }, { on := 4, ground := Go.Ground.phase }, { on := 5, ground := Go.Ground.phase }, { on := 6, ground := Go.Ground.phase }, { on := 7, ground := Go.Ground.phase }, { on := 8, ground := Go.Ground.phase }, { on := 9, ground := Go.Ground.phase }, { on := 10, ground := Go.Ground.phase }, { on := 11, ground := Go.Ground.phase }, { on := 12, ground := Go.Ground.phase }, { on := 13, ground := Go.Ground.phase }, { on := 14, ground := Go.Ground.phase }, { on := 15, ground := Go.Ground.phase }, { on := 16, ground := Go.Ground.phase }], guard := none }) rfl (fun K hK => ?_) AllReadyH.nil
        rw [if_pos (by kernel_rfl)]
        go_simp
        refine hK.out _ _ hS (fun hS2 => ?_)
        clear hS hS2 hK K
        refine wpAnyH_done (by kernel_rfl) ?_ _
        clear hm2
        go_wp2
        go_roundw
        case rel => exact ⟨i + 1, by go_num, by omega, HZ⟩
        case measure => simp [intOf]; omega
end
section
open Go.RowKit TextNum
/-- only blocks from lo to hi, and new ones, may differ -/
structure Kept (lo hi : Nat) (w w' : World) : Prop where
  os : w'.os = w.os
  tape : w'.tape = w.tape
  output : w'.output = w.output
  size : w.heap.size ≤ w'.heap.size
  block : ∀ k, k < w.heap.size → (k < lo ∨ hi ≤ k) → w'.heap[k]? = w.heap[k]?
theorem Kept.refl (lo hi : Nat) (w : World) : Kept lo hi w w := ⟨rfl, rfl, rfl, Nat.le_refl _, fun _ _ _ => rfl⟩
theorem Kept.up {lo hi : Nat} {w a b : World} (h : Kept lo hi w a) (u : Up a b) : Kept lo hi w b := ⟨u.os.trans h.os, u.tape.trans h.tape, u.output.trans h.output, Nat.le_trans h.size u.size, fun k hk hr => (u.block k (Nat.lt_of_lt_of_le hk h.size)).trans (h.block k hk hr)⟩
theorem Kept.by {lo hi : Nat} {w a b : World} {row : Option Nat} (h : Kept lo hi w a) (g : a.grownBy b row) (hr : ∀ r, row = some r → (lo ≤ r ∧ r < hi) ∨ w.heap.size ≤ r) : Kept lo hi w b := ⟨g.os.trans h.os, g.tape.trans h.tape, g.output.trans h.output, Nat.le_trans h.size g.size, fun k hk hk2 => (g.block k (Nat.lt_of_lt_of_le hk h.size) (fun e => by have := hr k e.symm; omega)).trans (h.block k hk hk2)⟩
theorem Kept.toUp {lo hi : Nat} {w0 w w' : World} (h : Kept lo hi w w') (u : Up w0 w) (hl : w0.heap.size ≤ lo) : Up w0 w' := ⟨h.os.trans u.os, h.tape.trans u.tape, h.output.trans u.output, Nat.le_trans u.size h.size, fun k hk => (h.block k (Nat.lt_of_lt_of_le hk u.size) (.inl (by omega))).trans (u.block k hk)⟩
/-- a list of lists of bytes of one's own -/
def OwnT (w : World) (B : Nat) (v : Value) (xs : List Value) : Prop := w.ownsRow B 22 1 v xs.length xs
theorem Tryd.infoSl : (Tryd.prog.info? 22).map (fun i => (i.zero, i.size, i.bytes)) = some (some (.slice none 0 0), 1, 24) := by kernel_rfl
theorem OwnT.up {w w' : World} {B : Nat} {v : Value} {xs : List Value} (h : OwnT w B v xs) (u : Up w w') : OwnT w' B v xs := by
  refine ⟨h.1, ?_⟩
  rcases h.2 with h | ⟨g, cap, cur, e, hb, hg, r⟩
  · exact .inl h
  · refine .inr ⟨g, cap, cur, e, hb, ?_, r⟩
    rw [u.block g (Array.getElem?_eq_some_iff.1 hg).1]; exact hg
theorem OwnT.by {w w' : World} {B : Nat} {v : Value} {xs : List Value} {row : Option Nat} (h : OwnT w B v xs) (hg : w.grownBy w' row) (hr : ∀ r, row = some r → r < B) : OwnT w' B v xs := by
  refine World.ownsRow.kept h hg ?_
  rcases hb : v.ownBlock with _ | b
  · exact .inl rfl
  · refine .inr (fun e => ?_)
    have h1 := hr b e.symm
    have h2 := (World.ownsRow.lt h b hb).1
    omega
theorem OwnT.cell {w : World} {B : Nat} {v : Value} {xs : List Value} (h : OwnT w B v xs) : ∃ a c, v = .slice a xs.length c ∧ ∀ i u, xs[i]? = some u → ∃ g, a = some ⟨g, 0, none⟩ ∧ w.cell? ⟨g, i, none⟩ = some u := by
  have h0 := h
  rcases h.2 with ⟨rfl, hn⟩ | ⟨g, cap, cur, rfl, _⟩
  · have hx : xs = [] := List.length_eq_zero_iff.1 hn
    subst hx
    exact ⟨none, 0, rfl, fun i u h => by simp at h⟩
  · refine ⟨_, cap, rfl, fun i u hu => ⟨g, rfl, ?_⟩⟩
    have := World.ownsRow.cells h0 (g := g) rfl i u hu
    rwa [add_plain, Nat.zero_add] at this
theorem run_app_T {w : World} {B : Nat} {v : Value} {xs : List Value} (ty : TypeId) (hown : OwnT w B v xs) (u : Value) (hu1 : u.oneCell' = true) (ad : Addr) (c : Nat) (hx : w.cell? ad = some u) (hn : xs.length < 1099511627776) (hB : B ≤ w.heap.size) :
    ∃ v' w', (Builtin.append_ #[64, 64] ty #[v, .slice (some ad) 1 c]).run Tryd.prog w = .ok v' w' ∧ OwnT w' B v' (xs ++ [u]) ∧ w.grownBy w' v.ownBlock ∧ Below B w w' ∧ ∀ g, v'.ownBlock = some g → v.ownBlock = some g ∨ w.heap.size ≤ g := by
  obtain ⟨i0, hi, hz0, hz1, hz2⟩ := info_parts Tryd.infoSl
  have hadd0 : ad.add 0 = ad := by obtain ⟨b, o, sp⟩ := ad; unfold Addr.add; split <;> simp_all
  obtain ⟨v', w', hr, ho, hg, _⟩ := run_append_own (P := Tryd.prog) w B 64 ty 22 i0 (.slice none 0 0) 1 24 Tryd.underlying64 hi hz0 hz1 hz2 rfl (by decide) v xs.length xs hown ad 1 c [u] rfl (fun j y hj => by
    match j, hj with
    | 0, hj => simp at hj; rw [hadd0, hx, hj]) (fun y hy => by simp at hy; subst hy; exact hu1) (by unfold maxLen; omega) (by omega) hB
  have hcl : ∀ j y, ([u] : List Value)[j]? = some y → w.cell? (ad.add j) = some y := fun j y hj => by
    match j, hj with
    | 0, hj => simp at hj; rw [hadd0, hx, hj]
  have h1' : ∀ y, y ∈ ([u] : List Value) → y.oneCell' = true := fun y hy => by simp at hy; subst hy; exact hu1
  refine ⟨v', w', hr, ?_, hg, (Below.refl B w).grown hg hB (fun k hk => (World.ownsRow.lt hown k hk).1), ?_⟩
  · unfold OwnT
    rw [List.length_append]
    exact ho
  · have ht := Tryd.underlying64
    rcases hown.2 with ⟨rfl, hn0⟩ | ⟨g, cap, cur, rfl, hbg, hgg, hnc, hcm, hcs, htake⟩
    · have h2 := run_append_nil (P := Tryd.prog) w 64 ty 22 i0 _ ht hi hz0 ad 1 c [u] (by rw [hz1]; rfl) hcl (by decide) (by decide) (by rw [hz2]; decide)
      rw [h2] at hr
      injection hr with hv hw
      subst hw hv
      intro g hg
      injection hg with hg
      exact .inr (Nat.le_of_eq hg)
    · by_cases hroom : xs.length + 1 ≤ cap
      · have h2 := run_append_room (P := Tryd.prog) w 64 ty 22 i0 ht hi g xs.length cap cur hgg ad 1 c [u] (by rw [hz1]; rfl) hcl h1' hroom (by rw [hz1, hcs]; simp; omega)
        rw [h2] at hr
        injection hr with hv hw
        subst hw hv
        exact fun g hg => .inl hg
      · have holds : ∀ j x, xs[j]? = some x → w.cell? ((⟨g, 0, none⟩ : Addr).add j) = some x := World.ownsRow.cells hown (g := g) rfl
        have h2 := run_append_grow (P := Tryd.prog) w 64 ty 22 i0 _ ht hi hz0 ⟨g, 0, none⟩ xs.length cap xs (by rw [hz1, Nat.mul_one]) holds ad 1 c [u] (by rw [hz1]; rfl) hcl (by omega) (by omega) (growslice_fits (by omega) (by rw [hz2]; omega))
        rw [h2] at hr
        injection hr with hv hw
        subst hw hv
        intro g hg
        injection hg with hg
        exact .inr (Nat.le_of_eq hg)
theorem wpList_appT {ops : Array Oper} {rest : List Oper} {o : Oper} {a : Act} {w : World} {Q : Exit → Act → World → Prop} (hgd : o.guard = none) (s x : Operand)
    (ho : o.op = .call { callee := .builtin .append, args := #[s, x], argTypes := #[64, 64] }) (B : Nat) (v : Value) (xs : List Value) (u : Value) (hu1 : u.oneCell' = true) (hs : a.eval s = v) (hown : OwnT w B v xs)
    (ad : Addr) (c : Nat) (hx : a.eval x = .slice (some ad) 1 c) (hc : w.cell? ad = some u) (hn : xs.length < 1099511627776) (hB : B ≤ w.heap.size)
    (h : ∀ v' w', OwnT w' B v' (xs ++ [u]) → w.grownBy w' v.ownBlock → Below B w w' → (∀ g, v'.ownBlock = some g → v.ownBlock = some g ∨ w.heap.size ≤ g) → wpList Tryd.prog ops Q rest (a.put o.dst v') w') : wpList Tryd.prog ops Q (o :: rest) a w := by
  refine wpList_plain hgd fun K hK => ?_
  obtain ⟨v', w', hr, h2, h3, h4, h5⟩ := run_app_T o.type hown u hu1 ad c hc hn hB
  unfold Oper.wp execOp
  simp only [ho, resolve, invoke, builtin, Sem.run_bind, Sem.run_pure, Result.andThen_ok, List.map_toArray, List.map_cons, List.map_nil, hs, hx, hr]
  exact hK _ _ (h v' w' h2 h3 h4 h5)
theorem wp_appT {o : Oper} {a : Act} {w : World} {K : Act → World → Prop} {Q : Exit → Act → World → Prop} (s x : Operand)
    (ho : o.op = .call { callee := .builtin .append, args := #[s, x], argTypes := #[64, 64] }) (B : Nat) (v : Value) (xs : List Value) (u : Value) (hu1 : u.oneCell' = true) (hs : a.eval s = v) (hown : OwnT w B v xs)
    (ad : Addr) (c : Nat) (hx : a.eval x = .slice (some ad) 1 c) (hc : w.cell? ad = some u) (hn : xs.length < 1099511627776) (hB : B ≤ w.heap.size)
    (h : ∀ v' w', OwnT w' B v' (xs ++ [u]) → w.grownBy w' v.ownBlock → Below B w w' → (∀ g, v'.ownBlock = some g → v.ownBlock = some g ∨ w.heap.size ≤ g) → K (a.put o.dst v') w') : Oper.wp Tryd.prog o a w K Q := by
  obtain ⟨v', w', hr, h2, h3, h4, h5⟩ := run_app_T o.type hown u hu1 ad c hc hn hB
  unfold Oper.wp execOp
  simp only [ho, resolve, invoke, builtin, Sem.run_bind, Sem.run_pure, Result.andThen_ok, List.map_toArray, List.map_cons, List.map_nil, hs, hx, hr]
  exact h v' w' h2 h3 h4 h5
/-- a signature written over -/
def hq (m : Nat) : Sg × Option Addr × Nat := (⟨⟨#[35]⟩, m, []⟩, none, 0)
/-- a signature is appended: the old list reads as it did -/
theorem run_app_old {w : World} {B : Nat} {ty : TypeId} {v : Value} {qs : List (Sg × Option Addr × Nat)} (hown : OwnG w B 42 v qs) (q : Sg × Option Addr × Nat) (ad : Addr) (c : Nat) (hu : ∀ j u, (qc q)[j]? = some u → w.cell? (ad.add j) = some u)
    (hq : Sl w (qv q) q.1.bytes) (hqb : ∀ b, (qv q).ownBlock = some b → b < w.heap.size ∧ v.ownBlock ≠ some b) (hn : qs.length < 1099511627776) (hB : B ≤ w.heap.size) :
    ∃ v' w', (Builtin.append_ #[39, 39] ty #[v, .slice (some ad) 1 c]).run Tryd.prog w = .ok v' w' ∧ OwnG w' B 42 v' (qs ++ [q]) ∧ w.grownBy w' v.ownBlock ∧ SigL w' v (qs.map (·.1)) ∧ ∀ b, v'.ownBlock = some b → v.ownBlock = some b ∨ w.heap.size ≤ b := by
  obtain ⟨v', w', hr, h2, h3, h4⟩ := run_app_sg (ty := ty) sgT1 hown q ad c hu hq hqb hn hB
  refine ⟨v', w', hr, h2, h4, ?_⟩
  have hsl := hown.sigL
  obtain ⟨ht, i, z, hi, hz, hsize, hby, hzs⟩ := sgT1
  obtain ⟨hrow, hall⟩ := hown
  have hul : (qc q).length = 3 := rfl
  rcases hrow.2 with ⟨rfl, hn0⟩ | ⟨g, cap, cur, rfl, hbg, hgg, hnc, hcm, hcs, htake⟩
  · have : qs = [] := List.length_eq_zero_iff.1 hn0
    subst this
    refine ⟨⟨none, 0, rfl, Nat.le_refl _, .inl rfl⟩, ?_⟩
    have h5 := run_append_nil (P := Tryd.prog) w 39 ty 42 i z ht hi hz ad 1 c (qc q) (by rw [hsize, hul]) hu (by decide) (by decide) (by rw [hby]; decide)
    rw [h5] at hr
    injection hr with hv hw
    intro b hb
    rw [← hv] at hb
    injection hb with hb
    exact .inr (Nat.le_of_eq hb)
  · by_cases hroom : qs.length + 1 ≤ cap
    · have h5 := run_append_room (P := Tryd.prog) w 39 ty 42 i ht hi g qs.length cap cur hgg ad 1 c (qc q) (by rw [hsize, hul]) hu (qc_one q) hroom (by rw [hsize, hcs, hul]; omega)
      rw [h5] at hr
      injection hr with hv hw
      have h6 := h2.sigL
      rw [← hv] at h6
      obtain ⟨a6, c6, e6, hc6, h6⟩ := h6
      injection e6 with e61 e62 e63
      refine ⟨⟨some ⟨g, 0, none⟩, cap, by rw [List.length_map], by rw [List.length_map]; exact hnc, ?_⟩, fun b hb => .inl (by rw [← hv] at hb; exact hb)⟩
      rcases h6 with h6 | ⟨b, off, e7, hb, h6⟩
      · simp at h6
      · rw [← e61] at e7
        injection e7 with e7
        injection e7 with e7 e8 _
        subst e7 e8
        refine .inr ⟨g, 0, rfl, hb, fun k hk => ?_⟩
        have hk' : k < ((qs ++ [q]).map (·.1)).length := by simp at hk ⊢; omega
        have := h6 k hk'
        rw [List.getElem_map, List.getElem_append_left (by simpa using hk)] at this
        rw [List.getElem_map]
        exact this
    · have holds : ∀ j x, (qs.flatMap qc)[j]? = some x → w.cell? ((⟨g, 0, none⟩ : Addr).add j) = some x := World.ownsRow.cells hrow (g := g) rfl
      have h5 := run_append_grow (P := Tryd.prog) w 39 ty 42 i z ht hi hz ⟨g, 0, none⟩ qs.length cap (qs.flatMap qc) (by rw [hsize]; exact hrow.1) holds ad 1 c (qc q) (by rw [hsize, hul]) hu (by omega) (by omega) (growslice_fits (by omega) (by rw [hby]; omega))
      rw [h5] at hr
      injection hr with hv hw
      rw [← hw]
      refine ⟨hsl.up (((Up.refl w).drew).alloc _), fun b hb => ?_⟩
      rw [← hv] at hb
      injection hb with hb
      exact .inr (Nat.le_of_eq hb)
theorem wpList_appOld {ops : Array Oper} {rest : List Oper} {o : Oper} {a : Act} {w : World} {Q : Exit → Act → World → Prop} (hgd : o.guard = none) (s x : Operand)
    (ho : o.op = .call { callee := .builtin .append, args := #[s, x], argTypes := #[39, 39] }) (B : Nat) (v : Value) (qs : List (Sg × Option Addr × Nat)) (q : Sg × Option Addr × Nat) (hs : a.eval s = v) (hown : OwnG w B 42 v qs)
    (ad : Addr) (c : Nat) (hx : a.eval x = .slice (some ad) 1 c) (hu : ∀ j u, (qc q)[j]? = some u → w.cell? (ad.add j) = some u)
    (hq : Sl w (qv q) q.1.bytes) (hqb : ∀ b, (qv q).ownBlock = some b → b < w.heap.size ∧ v.ownBlock ≠ some b) (hn : qs.length < 1099511627776) (hB : B ≤ w.heap.size)
    (h : ∀ v' w', OwnG w' B 42 v' (qs ++ [q]) → w.grownBy w' v.ownBlock → SigL w' v (qs.map (·.1)) → (∀ b, v'.ownBlock = some b → v.ownBlock = some b ∨ w.heap.size ≤ b) → wpList Tryd.prog ops Q rest (a.put o.dst v') w') : wpList Tryd.prog ops Q (o :: rest) a w := by
  refine wpList_plain hgd fun K hK => ?_
  obtain ⟨v', w', hr, h2, h3, h4, h5⟩ := run_app_old (ty := o.type) hown q ad c hu hq hqb hn hB
  unfold Oper.wp execOp
  simp only [ho, resolve, invoke, builtin, Sem.run_bind, Sem.run_pure, Result.andThen_ok, List.map_toArray, List.map_cons, List.map_nil, hs, hx, hr]
  exact hK _ _ (h v' w' h2 h3 h4 h5)
end
section
open Go.RowKit TextNum
/-- a list of lists that is read -/
def TL (w : World) (v : Value) (xs : List Value) : Prop := ∃ a c, v = .slice a xs.length c ∧ ∀ i u, xs[i]? = some u → ∃ g, a = some ⟨g, 0, none⟩ ∧ w.cell? ⟨g, i, none⟩ = some u
theorem TL.up {w w' : World} {v : Value} {xs : List Value} (h : TL w v xs) (u : Up w w') : TL w' v xs := by
  obtain ⟨a, c, e, h⟩ := h
  exact ⟨a, c, e, fun i y hy => by obtain ⟨g, h1, h2⟩ := h i y hy; exact ⟨g, h1, u.cell h2⟩⟩
def xi (x : UInt8) (k : Nat) : UInt8 := UInt8.ofNat (x.toNat + k)
theorem there_by {w w' : World} {b o n : Nat} {row : Option Nat} (h : w.there b o n) (hb : b < w.heap.size) (g : w.grownBy w' row) (hr : row ≠ some b) : w'.there b o n := by
  intro j hj
  have e := g.block b hb (fun e => hr e.symm)
  obtain ⟨h1, h2⟩ := h j hj
  exact ⟨by rw [World.cell?_of_block e]; exact h1, by rw [World.frozen?_of_block e]; exact h2⟩
theorem cell_by {w w' : World} {p : Addr} {v : Value} {row : Option Nat} (h : w.cell? p = some v) (g : w.grownBy w' row) (hr : row ≠ some p.block) : w'.cell? p = some v := by
  rw [World.cell?_of_block (g.block p.block (World.block_lt_of_cell? w p h) (fun e => hr e.symm))]
  exact h
/-- what holds while the bytes are written over -/
structure J1 (lo hi : Nat) (w : World) (v : Value) (qs : List (Sg × Option Addr × Nat)) (x : UInt8) (i : Nat) (L : List (List UInt8)) (vB : Value) (wr : World) : Prop where
  kp : Kept lo hi w wr
  row : wr.ownsRow lo 42 3 v qs.length (qs.flatMap qc)
  ll : L.length = qs.length
  byt : ∀ k (h : k < qs.length) (h' : k < L.length), OwnN wr lo (qv qs[k]) L[k]
  c0 : wr.cell? ⟨w.heap.size + 1, 0, none⟩ = some v
  c1 : wr.cell? ⟨w.heap.size + 1, 1, none⟩ = some (.slice none 0 0)
  c2 : wr.cell? ⟨w.heap.size + 1, 2, none⟩ = some vB
  c3 : wr.cell? ⟨w.heap.size + 1, 3, none⟩ = some (.slice none 0 0)
  c4 : wr.cell? ⟨w.heap.size + 1, 4, none⟩ = some (.int .u8 (x.toNat : Int))
  tr : wr.there w.heap.size 0 5
  th : wr.there (w.heap.size + 1) 0 5
  tb : OwnT wr (w.heap.size + 2) vB ((qs.take i).map qv)
  sz : w.heap.size + 2 ≤ wr.heap.size
/-- what the list's blocks are like -/
structure Bl7 (lo hi : Nat) (w : World) (v : Value) (qs : List (Sg × Option Addr × Nat)) : Prop where
  bv : ∀ b, v.ownBlock = some b → lo ≤ b ∧ b < hi
  bq : ∀ q, q ∈ qs → ∀ b, (qv q).ownBlock = some b → lo ≤ b ∧ b < hi ∧ v.ownBlock ≠ some b
  bp : qs.Pairwise (fun a b => ∀ k, (qv a).ownBlock = some k → (qv b).ownBlock ≠ some k)
  bh : hi ≤ w.heap.size
theorem Bl7.ne {lo hi : Nat} {w : World} {v : Value} {qs : List (Sg × Option Addr × Nat)} (B : Bl7 lo hi w v qs) {i k : Nat} (hi : i < qs.length) (hk : k < qs.length) (h : i ≠ k) : ∀ r, (qv qs[i]).ownBlock = some r → (qv qs[k]).ownBlock ≠ some r := by
  have hp := List.pairwise_iff_getElem.1 B.bp
  rcases Nat.lt_or_ge i k with hlt | hge
  · exact hp i k hi hk hlt
  · intro r h1 h2
    exact hp k i hk hi (by omega) r h2 h1
/-- one signature's bytes are changed -/
theorem J1.put {lo hi : Nat} {w : World} {v : Value} {qs : List (Sg × Option Addr × Nat)} {x : UInt8} {i : Nat} {L : List (List UInt8)} {vB : Value} {wr wr' : World} (J : J1 lo hi w v qs x i L vB wr) (B : Bl7 lo hi w v qs) (k : Nat) (hk : k < qs.length) (l' : List UInt8)
    (g : wr.grownBy wr' (qv qs[k]).ownBlock) (hn : OwnN wr' lo (qv qs[k]) l') : J1 lo hi w v qs x i (L.set k l') vB wr' := by
  have hB : ∀ b, (qv qs[k]).ownBlock = some b → lo ≤ b ∧ b < hi ∧ v.ownBlock ≠ some b := B.bq _ (List.getElem_mem hk)
  have hne : ∀ n, w.heap.size ≤ n → (qv qs[k]).ownBlock ≠ some n := fun n h e => by
    have h1 := (hB n e).2.1
    have h2 := B.bh
    omega
  refine ⟨J.kp.by g (fun r hr => .inl ⟨(hB r hr).1, (hB r hr).2.1⟩), World.ownsRow.kept J.row g ?_, by rw [List.length_set]; exact J.ll, fun k2 h h' => ?_, cell_by J.c0 g (hne _ (by simp)), cell_by J.c1 g (hne _ (by simp)), cell_by J.c2 g (hne _ (by simp)), cell_by J.c3 g (hne _ (by simp)), cell_by J.c4 g (hne _ (by simp)),
    there_by J.tr (by have := J.sz; omega) g (hne _ (Nat.le_refl _)), there_by J.th (by have := J.sz; omega) g (hne _ (by omega)), J.tb.by g (fun r hr => by have h1 := (hB r hr).2.1; have h2 := B.bh; omega), Nat.le_trans J.sz g.size⟩
  · rcases hb : v.ownBlock with _ | b
    · exact .inl rfl
    · exact .inr (fun e => (hB b e.symm).2.2 hb)
  · rw [List.length_set] at h'
    by_cases hkk : k = k2
    · subst hkk
      rw [List.getElem_set_self]
      exact hn
    · rw [List.getElem_set_ne hkk]
      exact (J.byt k2 h h').by g (fun r hr => B.ne hk h hkk r hr)
theorem row_up {w w' : World} {B : Nat} {v : Value} {n : Nat} {xs : List Value} (h : w.ownsRow B 42 3 v n xs) (u : Up w w') : w'.ownsRow B 42 3 v n xs := by
  refine ⟨h.1, ?_⟩
  rcases h.2 with h | ⟨g, cap, cur, e, hb, hg, r⟩
  · exact .inl h
  · refine .inr ⟨g, cap, cur, e, hb, ?_, r⟩
    rw [u.block g (Array.getElem?_eq_some_iff.1 hg).1]; exact hg
theorem J1.up {lo hi : Nat} {w : World} {v : Value} {qs : List (Sg × Option Addr × Nat)} {x : UInt8} {i : Nat} {L : List (List UInt8)} {vB : Value} {wr wr' : World} (J : J1 lo hi w v qs x i L vB wr) (u : Up wr wr') : J1 lo hi w v qs x i L vB wr' :=
  ⟨J.kp.up u, row_up J.row u, J.ll, fun k h h' => (J.byt k h h').up u, u.cell J.c0, u.cell J.c1, u.cell J.c2, u.cell J.c3, u.cell J.c4, there_up J.tr (by have := J.sz; omega) u, there_up J.th (by have := J.sz; omega) u, J.tb.up u, Nat.le_trans J.sz u.size⟩
theorem row_by {w w' : World} {B : Nat} {v : Value} {n : Nat} {xs : List Value} {row : Option Nat} (h : w.ownsRow B 42 3 v n xs) (g : w.grownBy w' row) (hr : ∀ b, v.ownBlock = some b → row ≠ some b) : w'.ownsRow B 42 3 v n xs := by
  refine World.ownsRow.kept h g ?_
  rcases hb : v.ownBlock with _ | b
  · exact .inl rfl
  · exact .inr (fun e => hr b hb e.symm)
/-- one more list stands in the box -/
theorem J1.next {lo hi : Nat} {w : World} {v : Value} {qs : List (Sg × Option Addr × Nat)} {x : UInt8} {i : Nat} {L : List (List UInt8)} {vB vB' : Value} {wr w2 : World} (J : J1 lo hi w v qs x i L vB wr) (B : Bl7 lo hi w v qs) (g : wr.grownBy w2 vB.ownBlock) (t : OwnT w2 (w.heap.size + 2) vB' ((qs.take (i + 1)).map qv)) :
    J1 lo hi w v qs x (i + 1) L vB' (w2.setCells (w.heap.size + 1) 2 [vB']) := by
  have hge : ∀ b, vB.ownBlock = some b → w.heap.size + 2 ≤ b := fun b hb => (World.ownsRow.lt J.tb b hb).1
  have hne : ∀ n, n < w.heap.size + 2 → vB.ownBlock ≠ some n := fun n h e => by have := hge n e; omega
  have g2 : w2.grownBy (w2.setCells (w.heap.size + 1) 2 [vB']) (some (w.heap.size + 1)) := grown_setC w2 _ [vB'] 2 w2 ⟨rfl, rfl, rfl, Nat.le_refl _, fun _ _ _ => rfl⟩
  have hh := B.bh
  have th2 := there_by J.th (by have := J.sz; omega) g (hne _ (by omega))
  have out : ∀ k y, k ≠ 2 → w2.cell? ⟨w.heap.size + 1, k, none⟩ = some y → (w2.setCells (w.heap.size + 1) 2 [vB']).cell? ⟨w.heap.size + 1, k, none⟩ = some y := fun k y hk h => (World.cell?_setCells_out _ _ _ _ _ (fun _ _ => by simp; omega)).trans h
  refine ⟨(J.kp.by g (fun r hr => .inr (by have := hge r hr; omega))).by g2 (fun r hr => .inr (by injection hr with hr; omega)), row_by (row_by J.row g (fun b hb => hne b (by have := (B.bv b hb).2; omega))) g2 (fun b hb e => by injection e with e; have := (B.bv b hb).2; omega), J.ll, fun k h h' => ?_,
    out 0 _ (by decide) (cell_by J.c0 g (hne _ (by simp))), out 1 _ (by decide) (cell_by J.c1 g (hne _ (by simp))), ?_, out 3 _ (by decide) (cell_by J.c3 g (hne _ (by simp))), out 4 _ (by decide) (cell_by J.c4 g (hne _ (by simp))), there_by (there_by J.tr (by have := J.sz; omega) g (hne _ (by omega))) (by have := J.sz; have := g.size; omega) g2 (by intro e; injection e with e; omega), World.there_setCells th2 _ _ _, t.by g2 (fun r hr => by injection hr with hr; omega), Nat.le_trans J.sz (Nat.le_trans g.size g2.size)⟩
  · have hB := B.bq _ (List.getElem_mem h)
    refine ((J.byt k h h').by g (fun r hr e => ?_)).by g2 (fun r hr e => ?_)
    · have h1 := hge r hr; have h2 := (hB r e).2.1; omega
    · injection hr with hr; have h2 := (hB r e).2.1; omega
  · exact World.rangeAt_setCells_same w2 (w.heap.size + 1) 2 [vB'] (fun k hk => by obtain rfl : k = 0 := (by simpa using hk); have := th2 2 (by decide); rw [Nat.zero_add] at this; exact this) 0 _ rfl
end
section
open Go.RowKit TextNum
def rp (x : UInt8) (qs : List (Sg × Option Addr × Nat)) (k : Nat) (h : k < qs.length) (d : Nat) : List UInt8 := List.replicate (qs[k].1.bytes.length + d) (xi x k)
/-- what holds while the bytes are lengthened -/
structure J2 (lo hi : Nat) (w : World) (v : Value) (qs : List (Sg × Option Addr × Nat)) (x : UInt8) (i : Nat) (vB vM : Value) (ms : List Value) (wr : World) : Prop where
  kp : Kept lo hi w wr
  row : wr.ownsRow lo 42 3 v qs.length (qs.flatMap qc)
  ml : ms.length = i
  bo : ∀ k (h : k < qs.length), i ≤ k → OwnN wr lo (qv qs[k]) (rp x qs k h 0)
  bs : ∀ k (h : k < qs.length) (h' : k < ms.length), Sl wr (qv qs[k]) (rp x qs k h 0) ∧ Sl wr ms[k] (rp x qs k h 1) ∧ ∀ b, ms[k].ownBlock = some b → ((qv qs[k]).ownBlock = some b ∨ (w.heap.size + 2 ≤ b ∧ vM.ownBlock ≠ some b)) ∧ b < wr.heap.size
  c0 : wr.cell? ⟨w.heap.size + 1, 0, none⟩ = some v
  c1 : wr.cell? ⟨w.heap.size + 1, 1, none⟩ = some (.slice none 0 0)
  c2 : wr.cell? ⟨w.heap.size + 1, 2, none⟩ = some vB
  c3 : wr.cell? ⟨w.heap.size + 1, 3, none⟩ = some vM
  c4 : wr.cell? ⟨w.heap.size + 1, 4, none⟩ = some (.int .u8 (x.toNat : Int))
  tr : wr.there w.heap.size 0 5
  th : wr.there (w.heap.size + 1) 0 5
  tb : OwnT wr (w.heap.size + 2) vB (qs.map qv)
  tm : OwnT wr (w.heap.size + 2) vM ms
  vne : ∀ b, vB.ownBlock = some b → vM.ownBlock ≠ some b
  sz : w.heap.size + 2 ≤ wr.heap.size
theorem tb_by {w w' : World} {B : Nat} {v : Value} {xs : List Value} {row : Option Nat} (h : OwnT w B v xs) (g : w.grownBy w' row) (hr : ∀ b, v.ownBlock = some b → row ≠ some b) : OwnT w' B v xs := by
  refine World.ownsRow.kept h g ?_
  rcases hb : v.ownBlock with _ | b
  · exact .inl rfl
  · exact .inr (fun e => hr b hb e.symm)
theorem J2.step {lo hi : Nat} {w : World} {v : Value} {qs : List (Sg × Option Addr × Nat)} {x : UInt8} {i : Nat} {vB vM vM' more : Value} {ms : List Value} {wr w1 w2 w3 w4 : World} (J : J2 lo hi w v qs x i vB vM ms wr) (B : Bl7 lo hi w v qs) (hii : i < qs.length)
    (u1 : Up wr w1) (g1 : w1.grownBy w2 (qv qs[i]).ownBlock) (s1 : Sl w2 (qv qs[i]) (rp x qs i hii 0)) (s2 : Sl w2 more (rp x qs i hii 1)) (ob : ∀ b, more.ownBlock = some b → ((qv qs[i]).ownBlock = some b ∨ w1.heap.size ≤ b) ∧ b < w2.heap.size)
    (u3 : Up w2 w3) (g3 : w3.grownBy w4 vM.ownBlock) (t4 : OwnT w4 (w.heap.size + 2) vM' (ms ++ [more])) (ov : ∀ b, vM'.ownBlock = some b → vM.ownBlock = some b ∨ w3.heap.size ≤ b) :
    J2 lo hi w v qs x (i + 1) vB vM' (ms ++ [more]) (w4.setCells (w.heap.size + 1) 3 [vM']) := by
  have hh := B.bh
  have hsz := J.sz
  have z1 := u1.size
  have z2 := g1.size
  have z3 := u3.size
  have z4 := g3.size
  have hq : ∀ b, (qv qs[i]).ownBlock = some b → lo ≤ b ∧ b < hi ∧ v.ownBlock ≠ some b := B.bq _ (List.getElem_mem _)
  have hqn : ∀ n, w.heap.size ≤ n → (qv qs[i]).ownBlock ≠ some n := fun n h e => by have := (hq n e).2.1; omega
  have hM : ∀ b, vM.ownBlock = some b → w.heap.size + 2 ≤ b ∧ b < wr.heap.size := fun b hb => World.ownsRow.lt J.tm b hb
  have hMn : ∀ n, n < w.heap.size + 2 → vM.ownBlock ≠ some n := fun n h e => by have := (hM n e).1; omega
  have g5 : w4.grownBy (w4.setCells (w.heap.size + 1) 3 [vM']) (some (w.heap.size + 1)) := grown_setC w4 _ [vM'] 3 w4 ⟨rfl, rfl, rfl, Nat.le_refl _, fun _ _ _ => rfl⟩
  have z5 := g5.size
  have cc : ∀ k y, wr.cell? ⟨w.heap.size + 1, k, none⟩ = some y → w4.cell? ⟨w.heap.size + 1, k, none⟩ = some y := fun k y h => cell_by (u3.cell (cell_by (u1.cell h) g1 (hqn _ (by simp)))) g3 (hMn _ (by simp))
  have out : ∀ k y, k ≠ 3 → wr.cell? ⟨w.heap.size + 1, k, none⟩ = some y → (w4.setCells (w.heap.size + 1) 3 [vM']).cell? ⟨w.heap.size + 1, k, none⟩ = some y := fun k y hk h => (World.cell?_setCells_out _ _ _ _ _ (fun _ _ => by simp; omega)).trans (cc k y h)
  have tt : ∀ b n, wr.there b 0 n → w.heap.size ≤ b → b < w.heap.size + 2 → w4.there b 0 n := fun b n h h1 h2 => there_by (there_up (there_by (there_up h (by omega) u1) (by omega) g1 (hqn _ h1)) (by omega) u3) (by omega) g3 (hMn _ h2)
  have th4 := tt _ _ J.th (by omega) (by omega)
  have slx : ∀ (y : Value) (l : List UInt8), Sl w2 y l → (∀ b, y.ownBlock = some b → vM.ownBlock ≠ some b ∧ b ≠ w.heap.size + 1) → Sl (w4.setCells (w.heap.size + 1) 3 [vM']) y l := fun y l h hb => ((h.up u3).by7 g3 (fun r hr e => (hb r e).1 hr)).setC (fun b e => (hb b e).2)
  refine ⟨((((J.kp.up u1).by g1 (fun r hr => .inl ⟨(hq r hr).1, (hq r hr).2.1⟩)).up u3).by g3 (fun r hr => .inr (by have := (hM r hr).1; omega))).by g5 (fun r hr => .inr (by injection hr with hr; omega)),
    row_by (row_by (row_up (row_by (row_up J.row u1) g1 (fun b hb e => (hq b e).2.2 hb)) u3) g3 (fun b hb => hMn b (by have := (B.bv b hb).2; omega))) g5 (fun b hb e => by injection e with e; have := (B.bv b hb).2; omega),
    by rw [List.length_append, J.ml]; rfl, fun k h hk => ?_, fun k h h' => ?_, out 0 _ (by decide) J.c0, out 1 _ (by decide) J.c1, out 2 _ (by decide) J.c2, ?_, out 4 _ (by decide) J.c4, there_by (tt _ _ J.tr (Nat.le_refl _) (by omega)) (by omega) g5 (by intro e; injection e with e; omega), World.there_setCells th4 _ _ _, ?_, tb_by t4 g5 (fun b hb e => ?_), fun b hb e => ?_, by omega⟩
  · have hB := B.bq _ (List.getElem_mem h)
    refine ((((((J.bo k h (by omega)).up u1).by g1 (fun r hr => B.ne hii h (by omega) r hr)).up u3).by g3 (fun r hr e => ?_)).by g5 (fun r hr e => ?_))
    · have h1 := (hM r hr).1; have h2 := (hB r e).2.1; omega
    · injection hr with hr; have h2 := (hB r e).2.1; omega
  · have hB := B.bq _ (List.getElem_mem h)
    rcases Nat.lt_or_ge k ms.length with hlt | hge
    · rw [List.getElem_append_left hlt]
      obtain ⟨a1, a2, a3⟩ := J.bs k h hlt
      have hki : i ≠ k := by have := J.ml; omega
      refine ⟨slx _ _ ((a1.up u1).by7 g1 (fun r hr => B.ne hii h hki r hr)) (fun b e => ⟨hMn b (by have := (hB b e).2.1; omega), by have := (hB b e).2.1; omega⟩), slx _ _ ((a2.up u1).by7 g1 (fun r hr e => ?_)) (fun b e => ?_), fun b e => ?_⟩
      · rcases (a3 r e).1 with h3 | ⟨h3, _⟩
        · exact B.ne hii h hki r hr h3
        · have := (hq r hr).2.1; omega
      · rcases (a3 b e).1 with h3 | ⟨h3, h4⟩
        · exact ⟨hMn b (by have := (hB b h3).2.1; omega), by have := (hB b h3).2.1; omega⟩
        · exact ⟨h4, by omega⟩
      · have h5 := (a3 b e).2
        refine ⟨?_, by omega⟩
        rcases (a3 b e).1 with h3 | ⟨h3, h4⟩
        · exact .inl h3
        · refine .inr ⟨h3, fun h6 => ?_⟩
          rcases ov b h6 with h7 | h7
          · exact h4 h7
          · omega
    · have hk : k = i := by have := J.ml; rw [List.length_append] at h'; simp at h'; omega
      subst hk
      have hm : (ms ++ [more])[k] = more := by rw [List.getElem_append_right hge]; simp [J.ml]
      rw [hm]
      refine ⟨slx _ _ s1 (fun b e => ⟨hMn b (by have := (hB b e).2.1; omega), by have := (hB b e).2.1; omega⟩), slx _ _ s2 (fun b e => ?_), fun b e => ?_⟩
      · rcases (ob b e).1 with h3 | h3
        · exact ⟨hMn b (by have := (hB b h3).2.1; omega), by have := (hB b h3).2.1; omega⟩
        · exact ⟨fun h4 => by have := (hM b h4).2; omega, by omega⟩
      · have h5 := (ob b e).2
        refine ⟨?_, by omega⟩
        rcases (ob b e).1 with h3 | h3
        · exact .inl h3
        · refine .inr ⟨by omega, fun h6 => ?_⟩
          rcases ov b h6 with h7 | h7
          · have := (hM b h7).2; omega
          · omega
  · exact World.rangeAt_setCells_same w4 (w.heap.size + 1) 3 [vM'] (fun k hk => by obtain rfl : k = 0 := (by simpa using hk); have := th4 3 (by decide); rw [Nat.zero_add] at this; exact this) 0 _ rfl
  · refine tb_by (tb_by ((tb_by (J.tb.up u1) g1 (fun b hb e => ?_)).up u3) g3 (fun b hb => J.vne b hb)) g5 (fun b hb e => ?_)
    · have h1 := (World.ownsRow.lt J.tb b hb).1; have h2 := (hq b e).2.1; omega
    · injection e with e; have h1 := (World.ownsRow.lt J.tb b hb).1; omega
  · injection e with e; have h1 := (World.ownsRow.lt t4 b hb).1; omega
  · rcases ov b e with h | h
    · exact J.vne b hb h
    · have := (World.ownsRow.lt J.tb b hb).2; omega
theorem J1.j2 {lo hi : Nat} {w : World} {v : Value} {qs : List (Sg × Option Addr × Nat)} {x : UInt8} {L : List (List UInt8)} {vB : Value} {wr : World} (J : J1 lo hi w v qs x qs.length L vB wr) (hL : ∀ k (h : k < qs.length) (h' : k < L.length), L[k] = List.replicate qs[k].1.bytes.length (xi x k)) : J2 lo hi w v qs x 0 vB (.slice none 0 0) [] wr :=
  ⟨J.kp, J.row, rfl, fun k h _ => by have h1 := J.byt k h (by rw [J.ll]; exact h); rw [hL k h (by rw [J.ll]; exact h)] at h1; exact h1, fun k h h' => absurd h' (Nat.not_lt_zero _), J.c0, J.c1, J.c2, J.c3, J.c4, J.tr, J.th, by have := J.tb; rw [List.take_length] at this; exact this, World.ownsRow_nil _ _ 22 1, fun b _ e => (by cases e), J.sz⟩
end
section
open Go.RowKit TextNum
theorem qc_set (q : Sg × Option Addr × Nat) : ∀ (rs : List (Sg × Option Addr × Nat)) (i : Nat), i < rs.length → (((rs.flatMap qc).set (i * 3) (.string q.1.name)).set (i * 3 + 1) (.int .u32 (q.1.hash : Int))).set (i * 3 + 2) (.slice q.2.1 q.1.bytes.length q.2.2) = (rs.set i q).flatMap qc
  | r :: t, 0, _ => by simp [qc, List.flatMap_cons]
  | r :: t, i + 1, h => by
    have ih := qc_set q t i (by simpa using h)
    rw [List.set_cons_succ, List.flatMap_cons, List.flatMap_cons, ← ih]
    have e0 : (i + 1) * 3 = i * 3 + 3 := by omega
    have hl : (qc r).length = 3 := rfl
    rw [e0, List.set_append, if_neg (by omega), hl, List.set_append, if_neg (by omega), hl, List.set_append, if_neg (by omega), hl]
    congr 1
/-- what holds while the list is written over -/
structure J3 (lo hi : Nat) (w : World) (v : Value) (qs : List (Sg × Option Addr × Nat)) (x : UInt8) (rs : List (Sg × Option Addr × Nat)) (vB vM : Value) (ms : List Value) (wr : World) : Prop where
  kp : Kept lo hi w wr
  row : wr.ownsRow lo 42 3 v rs.length (rs.flatMap qc)
  ml : ms.length = qs.length
  bs : ∀ k (h : k < qs.length) (h' : k < ms.length), Sl wr (qv qs[k]) (rp x qs k h 0) ∧ Sl wr ms[k] (rp x qs k h 1) ∧ ∀ b, ms[k].ownBlock = some b → (qv qs[k]).ownBlock = some b ∨ w.heap.size + 2 ≤ b
  c0 : wr.cell? ⟨w.heap.size + 1, 0, none⟩ = some v
  c1 : wr.cell? ⟨w.heap.size + 1, 1, none⟩ = some (.slice none 0 0)
  c2 : wr.cell? ⟨w.heap.size + 1, 2, none⟩ = some vB
  c3 : wr.cell? ⟨w.heap.size + 1, 3, none⟩ = some vM
  c4 : wr.cell? ⟨w.heap.size + 1, 4, none⟩ = some (.int .u8 (x.toNat : Int))
  tr : wr.there w.heap.size 0 5
  th : wr.there (w.heap.size + 1) 0 5
  tb : OwnT wr (w.heap.size + 2) vB (qs.map qv)
  tm : OwnT wr (w.heap.size + 2) vM ms
  sz : w.heap.size + 2 ≤ wr.heap.size
theorem J2.j3 {lo hi : Nat} {w : World} {v : Value} {qs : List (Sg × Option Addr × Nat)} {x : UInt8} {vB vM : Value} {ms : List Value} {wr : World} (J : J2 lo hi w v qs x qs.length vB vM ms wr) : J3 lo hi w v qs x qs vB vM ms wr :=
  ⟨J.kp, J.row, J.ml, fun k h h' => ⟨(J.bs k h h').1, (J.bs k h h').2.1, fun b hb => ((J.bs k h h').2.2 b hb).1.elim .inl (fun h => .inr h.1)⟩, J.c0, J.c1, J.c2, J.c3, J.c4, J.tr, J.th, J.tb, J.tm, J.sz⟩
/-- the list's own block is changed -/
theorem J3.put {lo hi : Nat} {w : World} {v : Value} {qs rs rs' : List (Sg × Option Addr × Nat)} {x : UInt8} {vB vM : Value} {ms : List Value} {wr wr' : World} (J : J3 lo hi w v qs x rs vB vM ms wr) (B : Bl7 lo hi w v qs) (g : wr.grownBy wr' v.ownBlock) (hr : wr'.ownsRow lo 42 3 v rs'.length (rs'.flatMap qc)) : J3 lo hi w v qs x rs' vB vM ms wr' := by
  have hh := B.bh
  have hsz := J.sz
  have hne : ∀ n, w.heap.size ≤ n → v.ownBlock ≠ some n := fun n h e => by have := (B.bv n e).2; omega
  refine ⟨J.kp.by g (fun r hr => .inl (B.bv r hr)), hr, J.ml, fun k h h' => ?_, cell_by J.c0 g (hne _ (by simp)), cell_by J.c1 g (hne _ (by simp)), cell_by J.c2 g (hne _ (by simp)), cell_by J.c3 g (hne _ (by simp)), cell_by J.c4 g (hne _ (by simp)), there_by J.tr (by omega) g (hne _ (Nat.le_refl _)), there_by J.th (by omega) g (hne _ (by omega)), tb_by J.tb g (fun b hb => hne b (by have := (World.ownsRow.lt J.tb b hb).1; omega)), tb_by J.tm g (fun b hb => hne b (by have := (World.ownsRow.lt J.tm b hb).1; omega)), Nat.le_trans J.sz g.size⟩
  obtain ⟨a1, a2, a3⟩ := J.bs k h h'
  have hB := B.bq _ (List.getElem_mem h)
  refine ⟨a1.by7 g (fun r hr e => (hB r e).2.2 hr), a2.by7 g (fun r hr e => ?_), a3⟩
  rcases a3 r e with h3 | h3
  · exact (hB r h3).2.2 hr
  · exact hne r (by omega) hr
/-- all but the list itself -/
theorem J3.rest {lo hi : Nat} {w : World} {v : Value} {qs rs : List (Sg × Option Addr × Nat)} {x : UInt8} {vB vM : Value} {ms : List Value} {wr wr' : World} (J : J3 lo hi w v qs x rs vB vM ms wr) (B : Bl7 lo hi w v qs) (g : wr.grownBy wr' v.ownBlock) :
    Kept lo hi w wr' ∧ (∀ k (h : k < qs.length) (h' : k < ms.length), Sl wr' (qv qs[k]) (rp x qs k h 0) ∧ Sl wr' ms[k] (rp x qs k h 1) ∧ ∀ b, ms[k].ownBlock = some b → (qv qs[k]).ownBlock = some b ∨ w.heap.size + 2 ≤ b) ∧ (wr'.cell? ⟨w.heap.size + 1, 0, none⟩ = some v ∧ wr'.cell? ⟨w.heap.size + 1, 1, none⟩ = some (.slice none 0 0) ∧ wr'.cell? ⟨w.heap.size + 1, 2, none⟩ = some vB ∧ wr'.cell? ⟨w.heap.size + 1, 3, none⟩ = some vM ∧ wr'.cell? ⟨w.heap.size + 1, 4, none⟩ = some (.int .u8 (x.toNat : Int))) ∧ wr'.there w.heap.size 0 5 ∧ wr'.there (w.heap.size + 1) 0 5 ∧ OwnT wr' (w.heap.size + 2) vB (qs.map qv) ∧ OwnT wr' (w.heap.size + 2) vM ms ∧ w.heap.size + 2 ≤ wr'.heap.size := by
  have hh := B.bh
  have hsz := J.sz
  have hne : ∀ n, w.heap.size ≤ n → v.ownBlock ≠ some n := fun n h e => by have := (B.bv n e).2; omega
  refine ⟨J.kp.by g (fun r hr => .inl (B.bv r hr)), fun k h h' => ?_, ⟨cell_by J.c0 g (hne _ (by simp)), cell_by J.c1 g (hne _ (by simp)), cell_by J.c2 g (hne _ (by simp)), cell_by J.c3 g (hne _ (by simp)), cell_by J.c4 g (hne _ (by simp))⟩, there_by J.tr (by omega) g (hne _ (Nat.le_refl _)), there_by J.th (by omega) g (hne _ (by omega)), tb_by J.tb g (fun b hb => hne b (by have := (World.ownsRow.lt J.tb b hb).1; omega)), tb_by J.tm g (fun b hb => hne b (by have := (World.ownsRow.lt J.tm b hb).1; omega)), Nat.le_trans J.sz g.size⟩
  obtain ⟨a1, a2, a3⟩ := J.bs k h h'
  have hB := B.bq _ (List.getElem_mem h)
  refine ⟨a1.by7 g (fun r hr e => (hB r e).2.2 hr), a2.by7 g (fun r hr e => ?_), a3⟩
  rcases a3 r e with h3 | h3
  · exact (hB r h3).2.2 hr
  · exact hne r (by omega) hr
theorem J3.up {lo hi : Nat} {w : World} {v : Value} {qs rs : List (Sg × Option Addr × Nat)} {x : UInt8} {vB vM : Value} {ms : List Value} {wr wr' : World} (J : J3 lo hi w v qs x rs vB vM ms wr) (u : Up wr wr') : J3 lo hi w v qs x rs vB vM ms wr' :=
  ⟨J.kp.up u, row_up J.row u, J.ml, fun k h h' => ⟨(J.bs k h h').1.up u, (J.bs k h h').2.1.up u, (J.bs k h h').2.2⟩, u.cell J.c0, u.cell J.c1, u.cell J.c2, u.cell J.c3, u.cell J.c4, there_up J.tr (by have := J.sz; omega) u, there_up J.th (by have := J.sz; omega) u, J.tb.up u, J.tm.up u, Nat.le_trans J.sz u.size⟩
theorem row_there {w : World} {B g cap n i : Nat} {xs : List Value} (h : w.ownsRow B 42 3 (.slice (some ⟨g, 0, none⟩) n cap) n xs) (hi : i < n) : w.there g (i * 3) 3 := by
  rcases h.2 with ⟨e, _⟩ | ⟨g', cap', cur, e, hb, hg, hnc, hcm, hcs, ht⟩
  · cases e
  · injection e with e1 _ e3
    injection e1 with e1
    injection e1 with e1 _ _
    subst e1 e3
    intro j hj
    constructor
    · rw [cell_of_row w g (i * 3 + j) cur _ _ hg, Array.getElem?_eq_getElem (by omega)]
      rfl
    · simp [World.frozen?, hg]
/-- one of the list is written over -/
theorem row_put {w : World} {B g cap : Nat} {rs : List (Sg × Option Addr × Nat)} (q : Sg × Option Addr × Nat) (h : w.ownsRow B 42 3 (.slice (some ⟨g, 0, none⟩) rs.length cap) rs.length (rs.flatMap qc)) (i : Nat) (hi : i < rs.length) :
    (w.setCells g (i * 3) (qc q)).ownsRow B 42 3 (.slice (some ⟨g, 0, none⟩) rs.length cap) (rs.set i q).length ((rs.set i q).flatMap qc) ∧ w.grownBy (w.setCells g (i * 3) (qc q)) (some g) := by
  obtain ⟨h1, g1⟩ := World.ownsRow.stored h (i * 3) (.string q.1.name)
  obtain ⟨h2, g2⟩ := World.ownsRow.stored h1 (i * 3 + 1) (.int .u32 (q.1.hash : Int))
  obtain ⟨h3, g3⟩ := World.ownsRow.stored h2 (i * 3 + 2) (.slice q.2.1 q.1.bytes.length q.2.2)
  rw [qc_set q rs i hi] at h3
  exact ⟨by rw [List.length_set]; exact h3, grown_trans (grown_trans g1 g2) g3⟩
/-- what bears asks -/
def Brs (w : World) (v vL vB vM : Value) (x : UInt8) (qs : List (Sg × Option Addr × Nat)) : Prop := SigL w v (List.replicate qs.length (hq x.toNat).1) ∧ SigL w vL (List.replicate (qs.length + 1) (hq x.toNat).1) ∧ TL w vB (qs.map qv) ∧ ∃ ms, ms.length = qs.length ∧ TL w vM ms ∧ ∀ k (h : k < qs.length) (h' : k < ms.length), Sl w (qv qs[k]) (rp x qs k h 0) ∧ Sl w ms[k] (rp x qs k h 1)
theorem Brs.up {w w' : World} {v vL vB vM : Value} {x : UInt8} {qs : List (Sg × Option Addr × Nat)} (h : Brs w v vL vB vM x qs) (u : Up w w') : Brs w' v vL vB vM x qs := by
  obtain ⟨h1, h2, h3, ms, h4, h5, h6⟩ := h
  exact ⟨h1.up u, h2.up u, h3.up u, ms, h4, h5.up u, fun k h h' => ⟨(h6 k h h').1.up u, (h6 k h h').2.up u⟩⟩
theorem sig_by {w w' : World} {v : Value} {n m : Nat} {row : Option Nat} (h : SigL w v (List.replicate n (hq m).1)) (g : w.grownBy w' row) (hr : ∀ b, v.ownBlock = some b → row ≠ some b) : SigL w' v (List.replicate n (hq m).1) := by
  obtain ⟨a, c, rfl, hc, h⟩ := h
  refine ⟨a, c, rfl, hc, ?_⟩
  rcases h with h | ⟨b, off, rfl, hb, h⟩
  · exact .inl h
  · refine .inr ⟨b, off, rfl, Nat.lt_of_lt_of_le hb g.size, fun i hi => ?_⟩
    obtain ⟨a2, n2, c2, k1, k2, k3, k4, k5⟩ := h i hi
    have hne := hr b rfl
    refine ⟨a2, n2, c2, cell_by k1 g hne, cell_by k2 g hne, cell_by k3 g hne, k4, ?_⟩
    have e : (List.replicate n (hq m).1)[i].bytes = [] := by simp [hq]
    rw [e] at k5 k4 ⊢
    obtain ⟨a3, c3, e3, h3, _⟩ := k5
    exact ⟨a3, c3, e3, h3, .inl rfl⟩
end
section
open Go.RowKit TextNum
theorem row_cell {w : World} {B g cap : Nat} {qs : List (Sg × Option Addr × Nat)} (h : w.ownsRow B 42 3 (.slice (some ⟨g, 0, none⟩) qs.length cap) qs.length (qs.flatMap qc)) (k : Nat) (hk : k < qs.length) : w.cell? ⟨g, k * 3 + 2, none⟩ = some (qv qs[k]) := by
  have := World.ownsRow.cells h (g := g) rfl (k * 3 + 2) (qv qs[k]) (by rw [qc_get qs k hk 2 (by decide)]; rfl)
  rwa [add_plain, Nat.zero_add] at this
theorem infoH7 : (Tryd.prog.info? 71).map (·.size) = some 5 := by kernel_rfl
theorem xi_toNat {x : UInt8} {k : Nat} (hx : x.toNat ≤ 100) (hk : k ≤ 16) : (xi x k).toNat = x.toNat + k := by unfold xi; rw [UInt8.toNat_ofNat']; omega
set_option maxRecDepth 100000 in
set_option maxHeartbeats 4000000 in
theorem filled_walk (lo hi : Nat) (g cap : Nat) (qs : List (Sg × Option Addr × Nat)) (x : UInt8) (w : World) (hO : OwnL w lo (.slice (some ⟨g, 0, none⟩) qs.length cap) qs) (hB : Bl7 lo hi w (.slice (some ⟨g, 0, none⟩) qs.length cap) qs) (hn : qs.length ≤ 16) (hl : ∀ q, q ∈ qs → q.1.bytes.length ≤ 1048576) (hx : x.toNat ≤ 100) :
    Calls Tryd.prog 38 #[.slice (some ⟨g, 0, none⟩) qs.length cap, .int .u8 (x.toNat : Int)] w fun e w' => ∃ vL vB vM, e = .returned (.agg #[.slice (some ⟨g, 0, none⟩) qs.length cap, vL, vB, vM, .int .u8 (x.toNat : Int)]) ∧ Brs w' (.slice (some ⟨g, 0, none⟩) qs.length cap) vL vB vM x qs ∧ Kept lo hi w w' := by
  obtain ⟨n, hnn⟩ : ∃ n, qs.length = n := ⟨_, rfl⟩
  have HO := Hid.of hO
  have HB := Hid.of hB
  have HL := Hid.of hl
  clear hO hB hl
  rw [hnn] at HO HB hn ⊢
  have hx0 : x.toNat < 256 := x.toNat_lt
  obtain ⟨V, HV⟩ : ∃ V, Hid (Value.slice (some ⟨g, 0, none⟩) n cap = V) := ⟨_, Hid.of rfl⟩
  have HJ0 := Hid.of (show J1 lo hi w (.slice (some ⟨g, 0, none⟩) n cap) qs x 0 (qs.map (·.1.bytes)) (.slice none 0 0) ((w.alloc (Obj.cells #[.slice none 0 0, .slice none 0 0, .slice none 0 0, .slice none 0 0, .int .u8 0] 71)).alloc (Obj.cells #[.slice (some ⟨g, 0, none⟩) n cap, .slice none 0 0, .slice none 0 0, .slice none 0 0, .int .u8 (x.toNat : Int)] 71)) from by
    have hz : (w.alloc (Obj.cells #[.slice none 0 0, .slice none 0 0, .slice none 0 0, .slice none 0 0, .int .u8 0] 71)).heap.size = w.heap.size + 1 := by simp
    have hu := ((Up.refl w).alloc (Obj.cells #[.slice none 0 0, .slice none 0 0, .slice none 0 0, .slice none 0 0, .int .u8 0] 71)).alloc (Obj.cells #[.slice (some ⟨g, 0, none⟩) n cap, .slice none 0 0, .slice none 0 0, .slice none 0 0, .int .u8 (x.toNat : Int)] 71)
    have hc := cells_new (w.alloc (Obj.cells #[.slice none 0 0, .slice none 0 0, .slice none 0 0, .slice none 0 0, .int .u8 0] 71)) 71 [.slice (some ⟨g, 0, none⟩) n cap, .slice none 0 0, .slice none 0 0, .slice none 0 0, .int .u8 (x.toNat : Int)]
    have ht := there_new (w.alloc (Obj.cells #[.slice none 0 0, .slice none 0 0, .slice none 0 0, .slice none 0 0, .int .u8 0] 71)) [.slice (some ⟨g, 0, none⟩) n cap, .slice none 0 0, .slice none 0 0, .slice none 0 0, .int .u8 (x.toNat : Int)] 71
    rw [hz] at hc ht
    have hcc : ∀ j y, ([.slice (some ⟨g, 0, none⟩) n cap, .slice none 0 0, .slice none 0 0, .slice none 0 0, .int .u8 (x.toNat : Int)] : List Value)[j]? = some y → _ := fun j y h => hc j y h
    simp only [add_plain, Nat.zero_add] at hcc
    refine ⟨(Kept.refl lo hi w).up hu, ?_, by simp, fun k h h' => ?_, hcc 0 _ rfl, hcc 1 _ rfl, hcc 2 _ rfl, hcc 3 _ rfl, hcc 4 _ rfl, there_up (there_new w [.slice none 0 0, .slice none 0 0, .slice none 0 0, .slice none 0 0, .int .u8 0] 71) (by simp) ((Up.refl _).alloc _), ht, World.ownsRow_nil _ _ 22 1, by simp⟩
    · rw [hnn]; have := (HO.out.1.up hu).1; rwa [hnn] at this
    · rw [List.getElem_map]
      exact (HO.out.2.1 _ (List.getElem_mem h)).up hu)
  go_enter Tryd.func38, Tryd.ntmps38
  go_wp2
  go_loopw [6, 7] (fun v6 _ wr => ∃ i : Nat, v6 = .int .i64 (i : Int) ∧ i ≤ n ∧ Hid (∃ L vB, J1 lo hi w (.slice (some ⟨g, 0, none⟩) n cap) qs x i L vB wr ∧ (∀ k (h : k < qs.length) (h' : k < L.length), k < i → L[k] = List.replicate qs[k].1.bytes.length (xi x k)) ∧ ∀ k (h : k < qs.length) (h' : k < L.length), i ≤ k → L[k] = qs[k].1.bytes)) (fun v6 _ _ => n - (intOf v6).toNat)
  case atStart => exact ⟨0, rfl, by omega, _, _, HJ0.out, fun k h h' hk => absurd hk (Nat.not_lt_zero _), fun k h h' _ => by rw [List.getElem_map]⟩
  case round =>
    obtain ⟨i, rfl, hi0, hI⟩ := hrel
    obtain ⟨L, vB, J, hLa, hLb⟩ := hI.out
    have HJ := Hid.of J
    have HLL := Hid.of (And.intro hLa hLb)
    clear hI J hLa hLb
    by_cases hlt : i < n
    rotate_left
    · have hlt' : ¬ (i : Int) < (n : Int) := by omega
      have HJ2 := Hid.of (show J2 lo hi w (.slice (some ⟨g, 0, none⟩) n cap) qs x 0 vB (.slice none 0 0) [] wr from (by
        have h1 := HJ.out
        rw [show i = qs.length by omega] at h1
        exact h1.j2 (fun k h h' => HLL.out.1 k h h' (by omega))))
      clear HJ HLL
      go_wp2
      go_loopw [8, 9] (fun v8 _ wr => ∃ i : Nat, v8 = .int .i64 (i : Int) ∧ i ≤ n ∧ Hid (∃ vM ms, J2 lo hi w (.slice (some ⟨g, 0, none⟩) n cap) qs x i vB vM ms wr)) (fun v8 _ _ => n - (intOf v8).toNat)
      case atStart => exact ⟨0, rfl, by omega, _, _, HJ2.out⟩
      case round =>
        clear HJ2 hlt hlt' hi0
        obtain ⟨i, rfl, hi0, hI⟩ := hrel
        obtain ⟨vM, ms, J⟩ := hI.out
        have HJ := Hid.of J
        clear hI J
        by_cases hlt : i < n
        · have hlt' : (i : Int) < (n : Int) := by omega
          have hltS : i < qs.length := by omega
          obtain ⟨gi, off, ci, hqv⟩ := (HJ.out.bo i hltS (Nat.le_refl _)).len
          have kr := row_cell (by have := HJ.out.row; rw [← hnn] at this; exact this) i hltS
          have HQV := Hid.of hqv
          rw [hqv] at kr
          clear hqv
          obtain ⟨m, HM⟩ : ∃ m, Hid ((rp x qs i hltS 0).length = m) := ⟨_, Hid.of rfl⟩
          have HLen := Hid.of (HL.out _ (List.getElem_mem hltS))
          rw [HM.out] at kr
          have hw1 : IntKind.u8.wrap (i : Int) = (i : Int) := by simp only [IntKind.wrap, IntKind.signed, IntKind.bits]; simp; omega
          have hw2 : IntKind.u8.wrap ((x.toNat : Int) + (i : Int)) = ((xi x i).toNat : Int) := by rw [xi_toNat hx (by omega)]; simp only [IntKind.wrap, IntKind.signed, IntKind.bits]; simp; omega
          go_wp2_with (with_reducible show wpList _ _ _ ({ dst := _, op := Op.call { callee := Callee.builtin Builtin.append, args := _, argTypes := _ }, type := _, pos := _, after := _, guard := _ } :: _) _ _; refine Shut.out ?_)
          show wpList _ _ _ _ _ _
          have hu1 : Up wr (wr.alloc (Obj.cells #[.int .u8 ((xi x i).toNat : Int)] 5)) := (Up.refl wr).alloc _
          have hon := (HJ.out.bo i hltS (Nat.le_refl _)).up hu1
          rw [HQV.out, HM.out] at hon
          refine wpList_appN rfl _ _ rfl lo _ (rp x qs i hltS 0) (xi x i) rfl hon ⟨wr.heap.size, 0, none⟩ 1 rfl (by rw [World.cell?_alloc_at _ _ _ _ rfl]; rfl) (by have := HLen.out; unfold rp; rw [List.length_replicate]; omega) ?_
          intro more w2 s2 s1 g1 ob
          simp only [Act.put, List.setIfInBounds_toArray, List.set_cons_zero, List.set_cons_succ]
          obtain ⟨am, nm, cm, hmore⟩ : ∃ am nm cm, more = .slice am nm cm := by
            obtain ⟨a7, c7, e, _⟩ := s2
            exact ⟨_, _, _, e⟩
          subst hmore
          have H2 := Hid.of (And.intro s2 (And.intro s1 (And.intro g1 (And.intro ob hu1))))
          have hc3 : w2.cell? ⟨w.heap.size + 1, 3, none⟩ = some vM := cell_by (hu1.cell HJ.out.c3) g1 (fun e => by have h1 := (HB.out.bq _ (List.getElem_mem hltS) (w.heap.size + 1) (by rw [HQV.out]; exact e)).2.1; have := HB.out.bh; omega)
          clear s2 s1 g1 ob hu1 hon kr
          go_wp2_with (with_reducible show wpList _ _ _ ({ dst := _, op := Op.call { callee := Callee.builtin Builtin.append, args := _, argTypes := _ }, type := _, pos := _, after := _, guard := _ } :: _) _ _; refine Shut.out ?_)
          show wpList _ _ _ _ _ _
          have hu3 : Up w2 (w2.alloc (Obj.cells #[.slice am nm cm] 22)) := (Up.refl w2).alloc _
          refine wpList_appT rfl _ _ rfl (w.heap.size + 2) vM ms (.slice am nm cm) rfl rfl (by exact (tb_by (HJ.out.tm.up H2.out.2.2.2.2) H2.out.2.2.1 (fun b hb e => by have h1 := (World.ownsRow.lt HJ.out.tm b hb).1; have h2 := (HB.out.bq _ (List.getElem_mem hltS) b (by rw [HQV.out]; exact e)).2.1; have := HB.out.bh; omega)).up hu3) ⟨w2.heap.size, 0, none⟩ 1 rfl (by rw [World.cell?_alloc_at _ _ _ _ rfl]; rfl) (by have := HJ.out.ml; omega) (by have h1 := HJ.out.sz; have h2 := H2.out.2.2.2.2.size; have h3 := H2.out.2.2.1.size; have h4 := hu3.size; omega) ?_
          intro vM' w4 t4 g3 b3 ov
          simp only [Act.put, List.setIfInBounds_toArray, List.set_cons_zero, List.set_cons_succ]
          have HN := Hid.of (HJ.out.step HB.out hltS H2.out.2.2.2.2 (by rw [HQV.out]; exact H2.out.2.2.1) (by rw [HQV.out, HM.out]; exact H2.out.2.1) (by have h1 := H2.out.1; unfold rp at h1 ⊢; rw [← List.replicate_succ'] at h1; exact h1) (by rw [HQV.out]; exact H2.out.2.2.2.1) hu3 g3 t4 ov)
          have hfr := ((there_by (there_up (there_by (there_up HJ.out.th (by have := HJ.out.sz; omega) H2.out.2.2.2.2) (by have := HJ.out.sz; have := H2.out.2.2.2.2.size; omega) H2.out.2.2.1 (fun e => by have h1 := (HB.out.bq _ (List.getElem_mem hltS) (w.heap.size + 1) (by rw [HQV.out]; exact e)).2.1; have := HB.out.bh; omega)) (by have := HJ.out.sz; have := H2.out.2.2.2.2.size; have := H2.out.2.2.1.size; omega) hu3) (by have := HJ.out.sz; have := H2.out.2.2.2.2.size; have := H2.out.2.2.1.size; have := hu3.size; omega) g3 (fun e => by have h1 := (World.ownsRow.lt HJ.out.tm _ e).1; omega)) 3 (by decide)).2
          have hcc := cell_by (hu3.cell hc3) g3 (fun e => by have h1 := (World.ownsRow.lt HJ.out.tm _ e).1; simp at h1)
          rw [Nat.zero_add] at hfr
          obtain ⟨aB, cB, eB, _⟩ := t4.cell
          obtain ⟨nB, hnB⟩ : ∃ nB, (ms ++ [Value.slice am nm cm]).length = nB := ⟨_, rfl⟩
          rw [hnB] at eB
          subst eB
          clear t4 g3 b3 ov hu3 hc3 H2
          have HN2 := Hid.of (show J2 lo hi w (.slice (some ⟨g, 0, none⟩) n cap) qs x (i + 1) vB (.slice aB nB cB) (ms ++ [Value.slice am nm cm]) (w4.setCell ⟨w.heap.size + 1, 3, none⟩ (.slice aB nB cB)) from HN.out)
          clear HN
          go_wp2
          go_roundw
          case rel => exact ⟨i + 1, by go_num, by omega, _, _, HN2.out⟩
          case measure => simp [intOf]; omega
        · have hlt' : ¬ (i : Int) < (n : Int) := by omega
          have HJ3 := Hid.of (show J3 lo hi w (.slice (some ⟨g, 0, none⟩) n cap) qs x qs vB vM ms wr from (by
            have h1 := HJ.out
            rw [show i = qs.length by omega] at h1
            exact h1.j3))
          clear HJ
          have hwx : IntKind.u32.wrap (x.toNat : Int) = (x.toNat : Int) := by simp only [IntKind.wrap, IntKind.signed, IntKind.bits]; simp; omega
          go_wp2
          go_loopw [10] (fun v10 wr => ∃ i : Nat, v10 = .int .i64 (i : Int) ∧ i ≤ n ∧ Hid (J3 lo hi w (.slice (some ⟨g, 0, none⟩) n cap) qs x (List.replicate i (hq x.toNat) ++ qs.drop i) vB vM ms wr)) (fun v10 _ => n - (intOf v10).toNat)
          case atStart => exact ⟨0, rfl, by omega, by simpa using HJ3⟩
          case round =>
            clear HJ3 hlt hlt' hi0
            obtain ⟨i, rfl, hi0, hJ⟩ := hrel
            have HRL := Hid.of (show (List.replicate i (hq x.toNat) ++ qs.drop i).length = n by simp; omega)
            by_cases hlt : i < n
            · have hlt' : (i : Int) < (n : Int) := by omega
              have hrow := hJ.out.row
              rw [HRL.out] at hrow
              have hth := row_there hrow hlt
              have hput := row_put (hq x.toNat) (B := lo) (g := g) (cap := cap) (rs := List.replicate i (hq x.toNat) ++ qs.drop i) (w := wr) (by rw [HRL.out]; exact hrow) i (by rw [HRL.out]; exact hlt)
              rw [HRL.out, show (List.replicate i (hq x.toNat) ++ qs.drop i).set i (hq x.toNat) = List.replicate (i + 1) (hq x.toNat) ++ qs.drop (i + 1) from by
                rw [List.drop_eq_getElem_cons (by omega : i < qs.length), List.set_append, if_neg (by simp), List.length_replicate, Nat.sub_self, List.set_cons_zero, List.replicate_succ', List.append_assoc]
                rfl] at hput
              have HN := Hid.of (hJ.out.put HB.out hput.2 hput.1)
              have HTh := Hid.of hth
              clear hrow hth hput
              go_wp2_with (with_reducible show wpList _ _ _ ({ dst := _, op := Op.store 42 (.tmp 85) _, type := _, pos := _, after := _, guard := _ } :: _) _ _; refine Shut.out ?_)
              show wpList _ _ _ _ _ _
              refine wpList_store_mid rfl _ _ _ rfl g (i * 3) #[.string ⟨#[35]⟩, .int .u32 (x.toNat : Int), .slice none 0 0] rfl rfl (by exact HTh.out) infoS (by simp [Value.oneCell']) ?_
              simp only [Act.put]
              have HN2 := Hid.of (show J3 lo hi w (.slice (some ⟨g, 0, none⟩) n cap) qs x (List.replicate (i + 1) (hq x.toNat) ++ qs.drop (i + 1)) vB vM ms (wr.setCells g (i * 3) [.string ⟨#[35]⟩, .int .u32 (x.toNat : Int), .slice none 0 0]) from HN.out)
              clear HN HTh
              generalize wr.setCells g (i * 3) [.string ⟨#[35]⟩, .int .u32 (x.toNat : Int), .slice none 0 0] = w9 at *
              go_wp2
              go_roundw
              case rel => exact ⟨i + 1, by go_num, by omega, HN2⟩
              case measure => simp [intOf]; omega
            · have hlt' : ¬ (i : Int) < (n : Int) := by omega
              have HJ3 := Hid.of (show J3 lo hi w (.slice (some ⟨g, 0, none⟩) n cap) qs x (List.replicate n (hq x.toNat)) vB vM ms wr from (by
                have h1 := hJ.out
                rw [show i = n by omega, List.drop_of_length_le (by omega), List.append_nil] at h1
                exact h1))
              clear hJ HRL
              go_wp2_with (with_reducible show wpList _ _ _ ({ dst := _, op := Op.call { callee := Callee.builtin Builtin.append, args := _, argTypes := _ }, type := _, pos := _, after := _, guard := _ } :: _) _ _; refine Shut.out ?_)
              show wpList _ _ _ _ _ _
              have hu1 : Up wr (wr.alloc (Obj.cells #[.string ⟨#[35]⟩, .int .u32 (x.toNat : Int), .slice none 0 0] 42)) := (Up.refl wr).alloc _
              have HJ4 := Hid.of (HJ3.out.up hu1)
              have hog : OwnG (wr.alloc (Obj.cells #[.string ⟨#[35]⟩, .int .u32 (x.toNat : Int), .slice none 0 0] 42)) lo 42 (.slice (some ⟨g, 0, none⟩) n cap) (List.replicate n (hq x.toNat)) := ⟨by have := HJ4.out.row; rwa [List.length_replicate] at this ⊢, fun q hq' => by
                obtain ⟨_, rfl⟩ := List.mem_replicate.1 hq'
                exact ⟨⟨none, 0, rfl, Nat.le_refl _, .inl rfl⟩, fun b hb => (by cases hb)⟩⟩
              refine wpList_appOld rfl _ _ rfl lo _ (List.replicate n (hq x.toNat)) (hq x.toNat) rfl hog ⟨wr.heap.size, 0, none⟩ 1 rfl (fun k u hk => cells_new wr 42 (qc (hq x.toNat)) k u hk) ⟨none, 0, rfl, Nat.le_refl _, .inl rfl⟩ (fun b hb => (by cases hb)) (by rw [List.length_replicate]; omega) (by have h1 := (HB.out.bv g rfl); have h2 := HB.out.bh; have h3 := HJ4.out.sz; omega) ?_
              intro vL w4 o4 g4 s4 ov
              simp only [Act.put, List.setIfInBounds_toArray, List.set_cons_zero, List.set_cons_succ]
              have hL0 := o4.sigL
              have hLb : ∀ b, vL.ownBlock = some b → b < hi ∨ w.heap.size + 2 ≤ b := fun b hb => by
                rcases ov b hb with h | h
                · exact .inl (HB.out.bv b h).2
                · have h3 := HJ4.out.sz
                  exact .inr (by omega)
              rw [← List.replicate_succ', List.map_replicate] at hL0
              rw [List.map_replicate] at s4
              obtain ⟨r1, r2, ⟨d0, d1, d2, d3, d4⟩, r3, r4, r5, r6, r7⟩ := HJ4.out.rest HB.out g4
              obtain ⟨aL, nL, cL, eL⟩ : ∃ aL nL cL, vL = .slice aL nL cL := by
                obtain ⟨aL, cL, e, _⟩ := hL0
                exact ⟨_, _, _, e⟩
              subst eL
              have HE := Hid.of (And.intro hL0 (And.intro s4 (And.intro r1 (And.intro r2 (And.intro r3 (And.intro r4 (And.intro r5 (And.intro r6 (And.intro r7 (And.intro hLb HJ4.out.ml))))))))))
              have hfr := (r4 1 (by decide)).2
              rw [Nat.zero_add] at hfr
              clear hL0 s4 r1 r2 r3 r4 r5 r6 r7 hLb ov o4 g4 hog HJ4 HJ3 hu1
              have hh := HB.out.bh
              obtain ⟨aB, cB, eB, fB⟩ := HE.out.2.2.2.2.2.2.1.cell
              obtain ⟨aM, cM, eM, fM⟩ := HE.out.2.2.2.2.2.2.2.1.cell
              obtain ⟨nB, HnB⟩ : ∃ nB, Hid ((qs.map qv).length = nB) := ⟨_, Hid.of rfl⟩
              obtain ⟨nM, HnM⟩ : ∃ nM, Hid (ms.length = nM) := ⟨_, Hid.of rfl⟩
              rw [HnB.out] at eB
              rw [HnM.out] at eM
              subst eB eM
              clear fB fM
              have g5 : w4.grownBy (w4.setCell ⟨w.heap.size + 1, 1, none⟩ (.slice aL nL cL)) (some (w.heap.size + 1)) := grown_set w4 ⟨w.heap.size + 1, 1, none⟩ _
              have out : ∀ k y, k ≠ 1 → w4.cell? ⟨w.heap.size + 1, k, none⟩ = some y → (w4.setCell ⟨w.heap.size + 1, 1, none⟩ (.slice aL nL cL)).cell? ⟨w.heap.size + 1, k, none⟩ = some y := fun k y hk h => (World.cell?_setCells_out (w.heap.size + 1) [.slice aL nL cL] 1 w4 _ (fun _ _ => by simp; omega)).trans h
              have e0 := out 0 _ (by decide) d0
              have e2 := out 2 _ (by decide) d2
              have e3 := out 3 _ (by decide) d3
              have e4 := out 4 _ (by decide) d4
              have e1 : (w4.setCell ⟨w.heap.size + 1, 1, none⟩ (.slice aL nL cL)).cell? ⟨w.heap.size + 1, 1, none⟩ = some (.slice aL nL cL) := World.rangeAt_setCells_same w4 (w.heap.size + 1) 1 [.slice aL nL cL] (fun k hk => by obtain rfl : k = 0 := (by simpa using hk); have := HE.out.2.2.2.2.2.1 1 (by decide); rw [Nat.zero_add] at this; exact this) 0 _ rfl
              have HG5 := Hid.of g5
              have HTR := Hid.of (there_by HE.out.2.2.2.2.1 (by have := HE.out.2.2.2.2.2.2.2.2.1; omega) g5 (by intro e; injection e with e; omega))
              clear g5 out d0 d2 d3 d4
              go_wp2_with (with_reducible show wpList _ _ _ ({ dst := _, op := Op.store 71 (.tmp 4) _, type := _, pos := _, after := _, guard := _ } :: _) _ _; refine Shut.out ?_)
              show wpList _ _ _ _ _ _
              refine wpList_store_mid rfl _ _ _ rfl w.heap.size 0 #[.slice (some ⟨g, 0, none⟩) n cap, .slice aL nL cL, .slice aB nB cB, .slice aM nM cM, .int .u8 (x.toNat : Int)] rfl rfl (by exact HTR.out) infoH7 (by simp [Value.oneCell']) ?_
              simp only [Act.put]
              have hrg := World.rangeAt_setCells_same (w4.setCell ⟨w.heap.size + 1, 1, none⟩ (.slice aL nL cL)) w.heap.size 0 [.slice (some ⟨g, 0, none⟩) n cap, .slice aL nL cL, .slice aB nB cB, .slice aM nM cM, .int .u8 (x.toNat : Int)] (by exact HTR.out)
              have HG6 := Hid.of (grown_setC (w4.setCell ⟨w.heap.size + 1, 1, none⟩ (.slice aL nL cL)) w.heap.size [.slice (some ⟨g, 0, none⟩) n cap, .slice aL nL cL, .slice aB nB cB, .slice aM nM cM, .int .u8 (x.toNat : Int)] 0 _ (grown_refl _ _))
              generalize (w4.setCell ⟨w.heap.size + 1, 1, none⟩ (.slice aL nL cL)).setCells w.heap.size 0 [.slice (some ⟨g, 0, none⟩) n cap, .slice aL nL cL, .slice aB nB cB, .slice aM nM cM, .int .u8 (x.toNat : Int)] = wZ at *
              generalize w4.setCell ⟨w.heap.size + 1, 1, none⟩ (.slice aL nL cL) = w6 at *
              go_wp2_with fail
              refine bodyPost_ret (result_cell1 Tryd.results38 _ _ w.heap.size [.slice (some ⟨g, 0, none⟩) n cap, .slice aL nL cL, .slice aB nB cB, .slice aM nM cM, .int .u8 (x.toNat : Int)] rfl hrg Tryd.underlying71 rfl infoH7) rfl ?_
              obtain ⟨f1, f2, f3, f4, f5, f6, f7, f8, f9, f10, f11⟩ := HE.out
              have nb : ∀ (y : Value) (l : List UInt8), Sl w4 y l → (∀ b, y.ownBlock = some b → b < hi ∨ w.heap.size + 2 ≤ b) → Sl wZ y l := fun y l h hb => (h.by7 HG5.out (fun r hr e => by injection hr with hr; have := hb r e; omega)).by7 HG6.out (fun r hr e => by injection hr with hr; have := hb r e; omega)
              refine ⟨_, _, _, rfl, ⟨?_, ?_, ?_, ms, f11, ?_, fun k h h' => ⟨nb _ _ (f4 k h h').1 (fun b hb => .inl (HB.out.bq _ (List.getElem_mem h) b hb).2.1), nb _ _ (f4 k h h').2.1 (fun b hb => ?_)⟩⟩, (f3.by HG5.out (fun r hr => .inr (by injection hr with hr; omega))).by HG6.out (fun r hr => .inr (by injection hr with hr; omega))⟩
              · rw [hnn]
                exact sig_by (sig_by f2 HG5.out (fun b hb e => by injection e with e; have := (HB.out.bv b hb).2; omega)) HG6.out (fun b hb e => by injection e with e; have := (HB.out.bv b hb).2; omega)
              · rw [hnn]
                exact sig_by (sig_by f1 HG5.out (fun b hb e => by injection e with e; have := f10 b hb; omega)) HG6.out (fun b hb e => by injection e with e; have := f10 b hb; omega)
              · exact (tb_by (tb_by f7 HG5.out (fun b hb e => by injection e with e; have := (World.ownsRow.lt f7 b hb).1; omega)) HG6.out (fun b hb e => by injection e with e; have := (World.ownsRow.lt f7 b hb).1; omega)).cell
              · exact (tb_by (tb_by f8 HG5.out (fun b hb e => by injection e with e; have := (World.ownsRow.lt f8 b hb).1; omega)) HG6.out (fun b hb e => by injection e with e; have := (World.ownsRow.lt f8 b hb).1; omega)).cell
              · rcases (f4 k h h').2.2 b hb with h3 | h3
                · exact .inl (HB.out.bq _ (List.getElem_mem h) b h3).2.1
                · exact .inr h3
    have hlt' : (i : Int) < (n : Int) := by omega
    have hltS : i < qs.length := by omega
    have hltL : i < L.length := by rw [HJ.out.ll]; exact hltS
    obtain ⟨gi, off, ci, hqv⟩ := (HJ.out.byt i hltS hltL).len
    rw [HLL.out.2 i hltS hltL (Nat.le_refl _)] at hqv
    have kr := row_cell (by have := HJ.out.row; rw [← hnn] at this; exact this) i hltS
    have HQV := Hid.of hqv
    rw [hqv] at kr
    have HLen := Hid.of (HL.out _ (List.getElem_mem hltS))
    obtain ⟨m, HM⟩ : ∃ m, Hid (qs[i].1.bytes.length = m) := ⟨_, Hid.of rfl⟩
    rw [HM.out] at kr HLen
    have hm := HLen.out
    have hw1 : IntKind.u8.wrap (i : Int) = (i : Int) := by simp only [IntKind.wrap, IntKind.signed, IntKind.bits]; simp; omega
    have hw2 : IntKind.u8.wrap ((x.toNat : Int) + (i : Int)) = ((xi x i).toNat : Int) := by rw [xi_toNat hx (by omega)]; simp only [IntKind.wrap, IntKind.signed, IntKind.bits]; simp; omega
    have hset : L.set i (wr7 (xi x i) qs[i].1.bytes 0) = L := by
      unfold wr7
      rw [List.replicate_zero, List.nil_append, List.drop_zero, ← HLL.out.2 i hltS hltL (Nat.le_refl _)]
      exact List.set_getElem_self hltL
    have HJ1 := Hid.of (show J1 lo hi w (.slice (some ⟨g, 0, none⟩) n cap) qs x i (L.set i (wr7 (xi x i) qs[i].1.bytes 0)) vB wr by rw [hset]; exact HJ.out)
    clear hset hqv
    go_wp2
    go_loopw [7] (fun v7 wq => ∃ j : Nat, v7 = .int .i64 (j : Int) ∧ j ≤ m ∧ Hid (J1 lo hi w (.slice (some ⟨g, 0, none⟩) n cap) qs x i (L.set i (wr7 (xi x i) qs[i].1.bytes j)) vB wq)) (fun v7 _ => m - (intOf v7).toNat)
    case atStart => exact ⟨0, rfl, by omega, HJ1⟩
    case round =>
      clear kr
      obtain ⟨j, rfl, hj, hJ⟩ := hrel
      have kr := row_cell (by have := hJ.out.row; rw [← hnn] at this; exact this) i hltS
      rw [HQV.out, HM.out] at kr
      by_cases hjl : j < m
      · have hjl' : (j : Int) < (m : Int) := by omega
        have hb := hJ.out.byt i hltS (by rw [List.length_set]; exact hltL)
        rw [List.getElem_set_self, HQV.out, HM.out] at hb
        obtain ⟨r1, r2, r3⟩ := hb.store j (by have := HM.out; rw [wr7_len (by omega)]; omega) (xi x i)
        rw [wr7_set (by have := HM.out; omega)] at r3
        have HN := Hid.of (show J1 lo hi w (.slice (some ⟨g, 0, none⟩) n cap) qs x i (L.set i (wr7 (xi x i) qs[i].1.bytes (j + 1))) vB (wr.setCell ⟨gi, off + j, none⟩ (.int .u8 ((xi x i).toNat : Int))) from by
          have h1 := hJ.out.put HB.out i hltS (wr7 (xi x i) qs[i].1.bytes (j + 1)) (wr' := wr.setCell ⟨gi, off + j, none⟩ (.int .u8 ((xi x i).toNat : Int))) (by rw [HQV.out]; exact grown_set wr ⟨gi, off + j, none⟩ _) (by rw [HQV.out, HM.out]; exact r3)
          rwa [List.set_set] at h1)
        clear r3 hb
        generalize (xi x i) = y at *
        go_wp2
        go_roundw
        case rel => exact ⟨j + 1, by go_num, by omega, by exact HN⟩
        case measure => simp [intOf]; omega
      · have hjl' : ¬ (j : Int) < (m : Int) := by omega
        obtain rfl : j = m := by omega
        go_wp2_with fail
        have HWr := Hid.of (show wr7 (xi x i) qs[i].1.bytes j = List.replicate j (xi x i) by unfold wr7; rw [List.drop_of_length_le (by rw [HM.out]; exact Nat.le_refl _)]; simp)
        refine wp_region_held_drew (S := fun wx => wx.cell? ⟨g, i * 3 + 2, none⟩ = some (.slice (some ⟨gi, off, none⟩) j ci)) (by kernel_rfl) kr (fun hS => ?_)
        have HC2 := Hid.of hJ.out.c2
        clear kr
        refine wpAnyH_take (i := 0) (oi := { dst := some 41, op := Go.Op.fieldAddr 71 (Go.Operand.tmp 5) 2, type := 0, pos := "law.go:69", after := #[], guard := none }) (v := .pointer (some ⟨w.heap.size + 1, 2, none⟩)) rfl (by kernel_rfl) (by kernel_rfl) (by kernel_rfl) (fun _ _ _ h => h) (Or.inl ⟨by kernel_rfl, ?_⟩) hS ?_
        · intro w5 hSw
          clear hSw hS
          go_simp
        simp only [Act.put, List.setIfInBounds_toArray, List.set_cons_zero, List.set_cons_succ]
        refine wpAnyH_take (i := 2) (oi := { dst := some 43, op := Go.Op.move (Go.Operand.tmp 0), type := 39, pos := "law.go:69", after := #[], guard := none }) (v := .slice (some ⟨g, 0, none⟩) n cap) rfl (by kernel_rfl) (by kernel_rfl) (by kernel_rfl) (fun _ _ _ h => h) (Or.inl ⟨by kernel_rfl, ?_⟩) hS ?_
        · intro w5 hSw
          clear hSw hS
          go_simp
        simp only [Act.put, List.setIfInBounds_toArray, List.set_cons_zero, List.set_cons_succ]
        refine wpAnyH_take (i := 3) (oi := { dst := some 44, op := Go.Op.move (Go.Operand.tmp 6), type := 3, pos := "law.go:69", after := #[], guard := none }) (v := .int .i64 (i : Int)) rfl (by kernel_rfl) (by kernel_rfl) (by kernel_rfl) (fun _ _ _ h => h) (Or.inl ⟨by kernel_rfl, ?_⟩) hS ?_
        · intro w5 hSw
          clear hSw hS
          go_simp
        simp only [Act.put, List.setIfInBounds_toArray, List.set_cons_zero, List.set_cons_succ]
        refine wpAnyH_take (i := 4) (oi := { dst := some 45, op := Go.Op.indexAddr 39 (Go.Operand.tmp 43) (Go.Operand.tmp 44), type := 0, pos := "law.go:69", after := #[{ on := 2, ground := Go.Ground.data }, { on := 3, ground := Go.Ground.data }], guard := none }) (v := .pointer (some ⟨g, i * 3, none⟩)) rfl (by kernel_rfl) (by kernel_rfl) (by kernel_rfl) (fun _ _ _ h => h) (Or.inl ⟨by kernel_rfl, ?_⟩) hS ?_
        · intro w5 hSw
          clear hSw hS
          go_simp
        simp only [Act.put, List.setIfInBounds_toArray, List.set_cons_zero, List.set_cons_succ]
        refine wpAnyH_take (i := 5) (oi := { dst := some 46, op := Go.Op.fieldAddr 42 (Go.Operand.tmp 45) 2, type := 0, pos := "law.go:69", after := #[{ on := 4, ground := Go.Ground.data }], guard := none }) (v := .pointer (some ⟨g, i * 3 + 2, none⟩)) rfl (by kernel_rfl) (by kernel_rfl) (by kernel_rfl) (fun _ _ _ h => h) (Or.inl ⟨by kernel_rfl, ?_⟩) hS ?_
        · intro w5 hSw
          clear hSw hS
          go_simp
        simp only [Act.put, List.setIfInBounds_toArray, List.set_cons_zero, List.set_cons_succ]
        refine wpAnyH_take (i := 6) (oi := { dst := some 47, op := Go.Op.load 22 (Go.Operand.tmp 46), type := 22, pos := "law.go:69", after := #[{ on := 5, ground := Go.Ground.data }], guard := none }) (v := .slice (some ⟨gi, off, none⟩) j ci) rfl (by kernel_rfl) (by kernel_rfl) (by kernel_rfl) (fun _ _ _ h => h) (Or.inl ⟨by kernel_rfl, ?_⟩) hS ?_
        · intro w5 hSw
          have h1 := hSw
          clear hSw
          go_simp
        simp only [Act.put, List.setIfInBounds_toArray, List.set_cons_zero, List.set_cons_succ]
        refine wpAnyH_ready (rs := [1, 7]) (by kernel_rfl) (by simp) ?_
        refine AllReadyH.cons (o := { dst := some 42, op := Go.Op.load 64 (Go.Operand.tmp 41), type := 64, pos := "law.go:69", after := #[{ on := 0, ground := Go.Ground.data }], guard := none }) rfl (fun K hK => ?_) (AllReadyH.cons (o := { dst := some 48, op := Go.Op.buildSlice 64 1 #[(0, Go.Operand.tmp 47)], type := 64, pos := "law.go:69", after := #[{ on := 6, ground := Go.Ground.data }], guard := none }) rfl (fun K hK => ?_) AllReadyH.nil)
        · rw [if_pos (by kernel_rfl)]
          have hc2 := HC2.out
          go_simp
          clear hc2
          refine hK.out _ _ hS (fun hS => ?_)
          clear hK K
          refine wpAnyH_ready (rs := [7]) (by kernel_rfl) (by simp) ?_
          refine AllReadyH.cons (o := { dst := some 48, op := Go.Op.buildSlice 64 1 #[(0, Go.Operand.tmp 47)], type := 64, pos := "law.go:69", after := #[{ on := 6, ground := Go.Ground.data }], guard := none }) rfl (fun K hK => ?_) AllReadyH.nil
          rw [if_pos (by kernel_rfl)]
          go_simp
          have hS2 : (wr.alloc (Obj.cells #[.slice (some ⟨gi, off, none⟩) j ci] 22)).drew.cell? ⟨g, i * 3 + 2, none⟩ = some (.slice (some ⟨gi, off, none⟩) j ci) := (((Up.refl wr).alloc (Obj.cells #[.slice (some ⟨gi, off, none⟩) j ci] 22)).drew).cell hS
          refine hK.out _ _ hS2 (fun hS => ?_)
          clear hK K hS2
          refine wpAnyH_ready (rs := [8]) (by kernel_rfl) (by simp) ?_
          refine AllReadyH.cons (o := { dst := some 49, op := Go.Op.call { callee := Go.Callee.builtin Go.Builtin.append, args := #[Go.Operand.tmp 42, Go.Operand.tmp 48], argTypes := #[64, 64] }, type := 64, pos := "law.go:69", after := #[{ on := 1, ground := Go.Ground.data }, { on := 7, ground := Go.Ground.data }], guard := none }) rfl (fun K hK => ?_) AllReadyH.nil
          rw [if_pos (by kernel_rfl)]
          have u7 : Up wr (wr.alloc (Obj.cells #[.slice (some ⟨gi, off, none⟩) j ci] 22)).drew := ((Up.refl wr).alloc _).drew
          refine wp_appT (Operand.tmp 42) (Operand.tmp 48) rfl (w.heap.size + 2) vB ((qs.take i).map qv) (.slice (some ⟨gi, off, none⟩) j ci) rfl rfl (hJ.out.tb.up u7) ⟨wr.heap.size, 0, none⟩ 1 rfl (by exact (World.cell?_drew _ _).trans (by rw [World.cell?_alloc_at _ _ _ _ rfl]; rfl)) (by rw [List.length_map, List.length_take]; omega) (Nat.le_trans hJ.out.sz u7.size) ?_
          intro vB' w7 hT7 g7 b7 _
          simp only [Act.put, List.setIfInBounds_toArray, List.set_cons_zero, List.set_cons_succ]
          have hT8 : OwnT w7 (w.heap.size + 2) vB' ((qs.take (i + 1)).map qv) := by
            rw [List.take_succ_eq_append_getElem hltS, List.map_append, List.map_cons, List.map_nil, HQV.out, HM.out]
            exact hT7
          have HN := Hid.of ((hJ.out.up u7).next HB.out g7 hT8)
          have hS2 : w7.cell? ⟨g, i * 3 + 2, none⟩ = some (.slice (some ⟨gi, off, none⟩) j ci) := cell_by hS g7 (fun e => by
            have h1 := (World.ownsRow.lt hJ.out.tb g e).1
            have h2 := (HB.out.bv g rfl).2
            have h3 := HB.out.bh
            omega)
          have hfr := ((there_by (there_up hJ.out.th (by have := hJ.out.sz; omega) u7) (by have := hJ.out.sz; have := u7.size; omega) g7 (fun e => by have h1 := (World.ownsRow.lt hJ.out.tb _ e).1; omega)) 2 (by decide)).2
          have hcc := cell_by (u7.cell hJ.out.c2) g7 (fun e => by have h1 := (World.ownsRow.lt hJ.out.tb _ e).1; simp at h1)
          rw [Nat.zero_add] at hfr
          have hTT := hT7.cell
          obtain ⟨aB, cB, eB, _⟩ := hTT
          clear hT7 g7 b7 u7 hT8
          refine hK.out _ _ hS2 (fun hS => ?_)
          clear hK hS2 K
          refine wpAnyH_take (i := 9) (oi := { dst := some 50, op := Go.Op.fieldAddr 71 (Go.Operand.tmp 5) 2, type := 0, pos := "law.go:69", after := #[{ on := 0, ground := Go.Ground.phase }, { on := 1, ground := Go.Ground.phase }, { on := 2, ground := Go.Ground.phase }, { on := 3, ground := Go.Ground.phase }, { on := 4, ground := Go.Ground.phase }, { on := 5, ground := Go.Ground.phase }, { on := 6, ground := Go.Ground.phase }, { on := 7, ground := Go.Ground.phase }, { on := 8, ground := Go.Ground.phase }], guard := none }) (v := .pointer (some ⟨w.heap.size + 1, 2, none⟩)) rfl (by kernel_rfl) (by kernel_rfl) (by kernel_rfl) (fun _ _ _ h => h) (Or.inl ⟨by kernel_rfl, ?_⟩) hS ?_
          · intro w5 hSw
            clear hSw hS
            go_simp
          simp only [Act.put, List.setIfInBounds_toArray, List.set_cons_zero, List.set_cons_succ]
          refine wpAnyH_ready (rs := [10]) (by kernel_rfl) (by simp) ?_
          refine AllReadyH.cons (o := { dst := none, op := Go.Op.store 64 (Go.Operand.tmp 50) (Go.Operand.tmp 49), type := 0, pos := "law.go:69", after := #[{ on := 9, ground := Go.Ground.data }, { on := 8, ground := Go.Ground.data }, { on := 8, ground := Go.Ground.chain }, { on := 0, ground := Go.Ground.phase }, { on := 1, ground := Go.Ground.phase }, { on := 2, ground := Go.Ground.phase }, { on := 3, ground := Go.Ground.phase }, { on := 4, ground := Go.Ground.phase }, { on := 5, ground := Go.Ground.phase }, { on := 6, ground := Go.Ground.phase }, { on := 7, ground := Go.Ground.phase }, { on := 8, ground := Go.Ground.phase }], guard := none }) rfl (fun K hK => ?_) AllReadyH.nil
          rw [if_pos (by kernel_rfl)]
          obtain ⟨nB, hnB⟩ : ∃ nB, ((qs.take i).map qv ++ [Value.slice (some ⟨gi, off, none⟩) j ci]).length = nB := ⟨_, rfl⟩
          rw [hnB] at eB
          subst eB
          go_simp
          clear hfr hcc
          refine hK.out _ _ ?_ (fun hS2 => ?_)
          · exact (World.cell?_setCells_out (w.heap.size + 1) [.slice aB nB cB] 2 w7 ⟨g, i * 3 + 2, none⟩ (fun e => absurd e (by have h2 := (HB.out.bv g rfl).2; have h3 := HB.out.bh; simp only; omega))).trans hS
          clear hS hS2 hK K
          refine wpAnyH_done (by kernel_rfl) ?_ _
          have HN2 := Hid.of (show J1 lo hi w (.slice (some ⟨g, 0, none⟩) n cap) qs x (i + 1) (L.set i (wr7 (xi x i) qs[i].1.bytes j)) (.slice aB nB cB) (w7.setCell ⟨w.heap.size + 1, 2, none⟩ (.slice aB nB cB)) from HN.out)
          clear HN
          generalize w7.setCell ⟨w.heap.size + 1, 2, none⟩ (.slice aB nB cB) = w9 at HN2 ⊢
          have HN3 := Hid.of (show ∃ L vB, J1 lo hi w (.slice (some ⟨g, 0, none⟩) n cap) qs x (i + 1) L vB w9 ∧ (∀ k (h : k < qs.length) (h' : k < L.length), k < i + 1 → L[k] = List.replicate qs[k].1.bytes.length (xi x k)) ∧ ∀ k (h : k < qs.length) (h' : k < L.length), i + 1 ≤ k → L[k] = qs[k].1.bytes from ⟨_, _, HN2.out, fun k h h' hk => by
            rw [List.length_set] at h'
            by_cases hki : i = k
            · subst hki
              rw [List.getElem_set_self, HWr.out, HM.out]
            · rw [List.getElem_set_ne hki]
              exact HLL.out.1 k h h' (by omega), fun k h h' hk => by
            rw [List.length_set] at h'
            rw [List.getElem_set_ne (by omega)]
            exact HLL.out.2 k h h' (by omega)⟩)
          clear HN2 hJ HJ HJ1 HWr HC2
          go_wp2
          go_roundw
          case rel => exact ⟨i + 1, by go_num, by omega, HN3⟩
          case measure => simp [intOf]; omega
        · rw [if_pos (by kernel_rfl)]
          go_simp
          have hS2 : (wr.alloc (Obj.cells #[.slice (some ⟨gi, off, none⟩) j ci] 22)).drew.cell? ⟨g, i * 3 + 2, none⟩ = some (.slice (some ⟨gi, off, none⟩) j ci) := (((Up.refl wr).alloc (Obj.cells #[.slice (some ⟨gi, off, none⟩) j ci] 22)).drew).cell hS
          refine hK.out _ _ hS2 (fun hS => ?_)
          clear hK K hS2
          refine wpAnyH_ready (rs := [1]) (by kernel_rfl) (by simp) ?_
          refine AllReadyH.cons (o := { dst := some 42, op := Go.Op.load 64 (Go.Operand.tmp 41), type := 64, pos := "law.go:69", after := #[{ on := 0, ground := Go.Ground.data }], guard := none }) rfl (fun K hK => ?_) AllReadyH.nil
          rw [if_pos (by kernel_rfl)]
          have hc2 : (wr.alloc (Obj.cells #[.slice (some ⟨gi, off, none⟩) j ci] 22)).drew.cell? ⟨w.heap.size + 1, 2, none⟩ = some vB := (((Up.refl wr).alloc (Obj.cells #[.slice (some ⟨gi, off, none⟩) j ci] 22)).drew).cell HC2.out
          go_simp
          clear hc2
          refine hK.out _ _ hS (fun hS => ?_)
          clear hK K
          refine wpAnyH_ready (rs := [8]) (by kernel_rfl) (by simp) ?_
          refine AllReadyH.cons (o := { dst := some 49, op := Go.Op.call { callee := Go.Callee.builtin Go.Builtin.append, args := #[Go.Operand.tmp 42, Go.Operand.tmp 48], argTypes := #[64, 64] }, type := 64, pos := "law.go:69", after := #[{ on := 1, ground := Go.Ground.data }, { on := 7, ground := Go.Ground.data }], guard := none }) rfl (fun K hK => ?_) AllReadyH.nil
          rw [if_pos (by kernel_rfl)]
          have u7 : Up wr (wr.alloc (Obj.cells #[.slice (some ⟨gi, off, none⟩) j ci] 22)).drew := ((Up.refl wr).alloc _).drew
          refine wp_appT (Operand.tmp 42) (Operand.tmp 48) rfl (w.heap.size + 2) vB ((qs.take i).map qv) (.slice (some ⟨gi, off, none⟩) j ci) rfl rfl (hJ.out.tb.up u7) ⟨wr.heap.size, 0, none⟩ 1 rfl (by exact (World.cell?_drew _ _).trans (by rw [World.cell?_alloc_at _ _ _ _ rfl]; rfl)) (by rw [List.length_map, List.length_take]; omega) (Nat.le_trans hJ.out.sz u7.size) ?_
          intro vB' w7 hT7 g7 b7 _
          simp only [Act.put, List.setIfInBounds_toArray, List.set_cons_zero, List.set_cons_succ]
          have hT8 : OwnT w7 (w.heap.size + 2) vB' ((qs.take (i + 1)).map qv) := by
            rw [List.take_succ_eq_append_getElem hltS, List.map_append, List.map_cons, List.map_nil, HQV.out, HM.out]
            exact hT7
          have HN := Hid.of ((hJ.out.up u7).next HB.out g7 hT8)
          have hS2 : w7.cell? ⟨g, i * 3 + 2, none⟩ = some (.slice (some ⟨gi, off, none⟩) j ci) := cell_by hS g7 (fun e => by
            have h1 := (World.ownsRow.lt hJ.out.tb g e).1
            have h2 := (HB.out.bv g rfl).2
            have h3 := HB.out.bh
            omega)
          have hfr := ((there_by (there_up hJ.out.th (by have := hJ.out.sz; omega) u7) (by have := hJ.out.sz; have := u7.size; omega) g7 (fun e => by have h1 := (World.ownsRow.lt hJ.out.tb _ e).1; omega)) 2 (by decide)).2
          have hcc := cell_by (u7.cell hJ.out.c2) g7 (fun e => by have h1 := (World.ownsRow.lt hJ.out.tb _ e).1; simp at h1)
          rw [Nat.zero_add] at hfr
          have hTT := hT7.cell
          obtain ⟨aB, cB, eB, _⟩ := hTT
          clear hT7 g7 b7 u7 hT8
          refine hK.out _ _ hS2 (fun hS => ?_)
          clear hK hS2 K
          refine wpAnyH_take (i := 9) (oi := { dst := some 50, op := Go.Op.fieldAddr 71 (Go.Operand.tmp 5) 2, type := 0, pos := "law.go:69", after := #[{ on := 0, ground := Go.Ground.phase }, { on := 1, ground := Go.Ground.phase }, { on := 2, ground := Go.Ground.phase }, { on := 3, ground := Go.Ground.phase }, { on := 4, ground := Go.Ground.phase }, { on := 5, ground := Go.Ground.phase }, { on := 6, ground := Go.Ground.phase }, { on := 7, ground := Go.Ground.phase }, { on := 8, ground := Go.Ground.phase }], guard := none }) (v := .pointer (some ⟨w.heap.size + 1, 2, none⟩)) rfl (by kernel_rfl) (by kernel_rfl) (by kernel_rfl) (fun _ _ _ h => h) (Or.inl ⟨by kernel_rfl, ?_⟩) hS ?_
          · intro w5 hSw
            clear hSw hS
            go_simp
          simp only [Act.put, List.setIfInBounds_toArray, List.set_cons_zero, List.set_cons_succ]
          refine wpAnyH_ready (rs := [10]) (by kernel_rfl) (by simp) ?_
          refine AllReadyH.cons (o := { dst := none, op := Go.Op.store 64 (Go.Operand.tmp 50) (Go.Operand.tmp 49), type := 0, pos := "law.go:69", after := #[{ on := 9, ground := Go.Ground.data }, { on := 8, ground := Go.Ground.data }, { on := 8, ground := Go.Ground.chain }, { on := 0, ground := Go.Ground.phase }, { on := 1, ground := Go.Ground.phase }, { on := 2, ground := Go.Ground.phase }, { on := 3, ground := Go.Ground.phase }, { on := 4, ground := Go.Ground.phase }, { on := 5, ground := Go.Ground.phase }, { on := 6, ground := Go.Ground.phase }, { on := 7, ground := Go.Ground.phase }, { on := 8, ground := Go.Ground.phase }], guard := none }) rfl (fun K hK => ?_) AllReadyH.nil
          rw [if_pos (by kernel_rfl)]
          obtain ⟨nB, hnB⟩ : ∃ nB, ((qs.take i).map qv ++ [Value.slice (some ⟨gi, off, none⟩) j ci]).length = nB := ⟨_, rfl⟩
          rw [hnB] at eB
          subst eB
          go_simp
          clear hfr hcc
          refine hK.out _ _ ?_ (fun hS2 => ?_)
          · exact (World.cell?_setCells_out (w.heap.size + 1) [.slice aB nB cB] 2 w7 ⟨g, i * 3 + 2, none⟩ (fun e => absurd e (by have h2 := (HB.out.bv g rfl).2; have h3 := HB.out.bh; simp only; omega))).trans hS
          clear hS hS2 hK K
          refine wpAnyH_done (by kernel_rfl) ?_ _
          have HN2 := Hid.of (show J1 lo hi w (.slice (some ⟨g, 0, none⟩) n cap) qs x (i + 1) (L.set i (wr7 (xi x i) qs[i].1.bytes j)) (.slice aB nB cB) (w7.setCell ⟨w.heap.size + 1, 2, none⟩ (.slice aB nB cB)) from HN.out)
          clear HN
          generalize w7.setCell ⟨w.heap.size + 1, 2, none⟩ (.slice aB nB cB) = w9 at HN2 ⊢
          have HN3 := Hid.of (show ∃ L vB, J1 lo hi w (.slice (some ⟨g, 0, none⟩) n cap) qs x (i + 1) L vB w9 ∧ (∀ k (h : k < qs.length) (h' : k < L.length), k < i + 1 → L[k] = List.replicate qs[k].1.bytes.length (xi x k)) ∧ ∀ k (h : k < qs.length) (h' : k < L.length), i + 1 ≤ k → L[k] = qs[k].1.bytes from ⟨_, _, HN2.out, fun k h h' hk => by
            rw [List.length_set] at h'
            by_cases hki : i = k
            · subst hki
              rw [List.getElem_set_self, HWr.out, HM.out]
            · rw [List.getElem_set_ne hki]
              exact HLL.out.1 k h h' (by omega), fun k h h' hk => by
            rw [List.length_set] at h'
            rw [List.getElem_set_ne (by omega)]
            exact HLL.out.2 k h h' (by omega)⟩)
          clear HN2 hJ HJ HJ1 HWr HC2
          go_wp2
          go_roundw
          case rel => exact ⟨i + 1, by go_num, by omega, HN3⟩
          case measure => simp [intOf]; omega
end
end Go.Proofs.YtbdbpmeaiiodgaaDoor
