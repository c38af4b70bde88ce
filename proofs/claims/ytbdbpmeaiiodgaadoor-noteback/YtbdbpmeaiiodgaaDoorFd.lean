import Derived.Test.YtbdbpmeaiiodgaaDoorFc
import Derived.Test.YtbdbpmeaiiodgaaDoorFm
namespace Go.Proofs.YtbdbpmeaiiodgaaDoor
open Go.RowKit TextNum
/-- a note's lines so far -/
def fmtP (t : List UInt8) (ss : List Sg) (i : Nat) : List UInt8 := t ++ 10 :: joinL ((ss.take i).map sigB)
theorem joinL_app7 : ∀ (a b : List (List UInt8)), joinL (a ++ b) = joinL a ++ joinL b
  | [], b => by simp [joinL]
  | x :: a, b => by rw [List.cons_append, joinL_cons, joinL_cons, joinL_app7 a b]; simp
theorem fmtP_succ (t : List UInt8) (ss : List Sg) (i : Nat) (h : i < ss.length) : fmtP t ss (i + 1) = fmtP t ss i ++ (sigB ss[i] ++ [10]) := by
  unfold fmtP
  rw [List.take_succ_eq_append_getElem h, List.map_append, joinL_app7]
  simp [joinL]
theorem sumL_take_le (ss : List Sg) (i : Nat) : sumL (ss.take i) ≤ sumL ss := by
  induction ss generalizing i with
  | nil => simp [sumL]
  | cons s r ih =>
    cases i with
    | zero => simp [sumL]
    | succ i => have := ih i; simp only [List.take_succ_cons, sumL]; omega
theorem fmtP_len (t : ByteArray) (ss : List Sg) (i : Nat) : (fmtP t.data.toList ss i).length ≤ nlen t ss := by
  unfold fmtP nlen
  have := sumL_take_le ss i
  rw [List.length_append, List.length_cons, joinL_len, ← Go.Lib.size_eq]
  omega
def Hsh (ss : List Sg) : Prop := ∀ s, s ∈ ss → s.hash < 4294967296
/-- what Format answers -/
def FA (t : ByteArray) (ss : List Sg) (w : World) (e : Ending) (w' : World) : Prop := ∃ v er, e = .returned (.tuple #[v, .int .i64 er]) ∧ FR t ss er ∧ (er = 0 → Sl w' v (fmtN t.data.toList ss)) ∧ (er ≠ 0 → v = .slice none 0 0) ∧ Up w w'
open Classical in
set_option maxRecDepth 100000 in
set_option maxHeartbeats 2000000 in
theorem Format_walk (t : ByteArray) (ht : t.size ≤ 140737488355328) (v : Value) (ss : List Sg) (w : World) (hS : SigL w v ss) (hb : Bds ss) (hh : Hsh ss) (hT : TabL w) (hW : Go.Lib.WhiteTab 3 w) :
    Calls Tryd.prog 23 #[.string t, v] w (FA t ss w) := by
  obtain ⟨a, c, rfl, hc, hg⟩ := hS.get
  have HG := Hid.of hg
  have HS := Hid.of hS
  have HB := Hid.of hb
  have HH := Hid.of hh
  have HT := Hid.of hT
  have HW := Hid.of hW
  clear hS hg hb hh hT hW
  obtain ⟨n, hn⟩ : ∃ n, ss.length = n := ⟨_, rfl⟩
  rw [hn] at hc HS ⊢
  go_enter Tryd.func23, Tryd.ntmps23
  by_cases h16 : 16 < n
  · have h16' : (16 : Int) < (n : Int) := by omega
    go_wp2
    go_ret2
    exact ⟨_, _, rfl, .inl ⟨rfl, .inl (by omega)⟩, fun h => absurd h (by decide), fun _ => rfl, Up.refl _⟩
  have h16' : ¬ (16 : Int) < (n : Int) := by omega
  go_wp2_with fail
  refine (noteLength_walk t ht _ ss w HS.out (by omega) HB.out).mono ?_
  rintro e w1 ⟨rfl, u1⟩
  have H1 := Hid.of u1
  clear u1
  have HE := Hid.of (show nlen t ss = nlen t ss from rfl)
  generalize hN : nlen t ss = N at HE ⊢
  dsimp only
  by_cases hL : 65536 < N
  · have hL' : (65536 : Int) < (N : Int) := by omega
    go_wp2
    go_ret2
    exact ⟨_, _, rfl, .inl ⟨rfl, .inr (by omega)⟩, fun h => absurd h (by decide), fun _ => rfl, H1.out⟩
  have hL' : ¬ (65536 : Int) < (N : Int) := by omega
  have HLg := Hid.of (show ¬ Lng t ss by unfold Lng; omega)
  go_wp2_with fail
  refine (isNoteText_walk t ht w1).mono ?_
  rintro e w2 ⟨rfl, u2⟩
  have H2 := Hid.of (H1.out.trans u2)
  clear u2 H1
  by_cases hk : okT t
  rotate_left
  · rw [decide_eq_false hk]
    have HK := Hid.of hk
    clear hk
    dsimp only
    go_wp2
    go_ret2
    exact ⟨_, _, rfl, .inr (.inl ⟨rfl, HLg.out, fun h => HK.out h.1⟩), fun h => absurd h (by decide), fun _ => rfl, H2.out⟩
  rw [decide_eq_true hk]
  have HK := Hid.of hk
  clear hk
  dsimp only
  by_cases h0 : n = 0
  · have h0' : ((n : Int) == 0) = true := by simpa using h0
    go_wp2
    go_ret2
    exact ⟨_, _, rfl, .inr (.inl ⟨rfl, HLg.out, fun h => h.2.1 (List.length_eq_zero_iff.1 (by omega))⟩), fun h => absurd h (by decide), fun _ => rfl, H2.out⟩
  have h0' : ((n : Int) == 0) = false := by simpa using h0
  go_wp2_with fail
  refine (ContainsFunc_walk _ ss w2 (HS.out.up H2.out) (by omega) (WhiteTab_up HW.out H2.out)).mono ?_
  rintro e w3 ⟨rfl, u3⟩
  have H3 := Hid.of (H2.out.trans u3)
  clear u3 H2
  by_cases hA : AllOk ss
  rotate_left
  · rw [decide_eq_true hA]
    have HA := Hid.of hA
    clear hA
    dsimp only
    go_wp2
    go_ret2
    exact ⟨_, _, rfl, .inr (.inl ⟨rfl, HLg.out, fun h => HA.out h.2.2⟩), fun h => absurd h (by decide), fun _ => rfl, H3.out⟩
  rw [decide_eq_false (fun h => h hA)]
  have HF := Hid.of (show Fine t ss from ⟨HK.out, fun e => h0 (by rw [← hn, e]; rfl), hA⟩)
  clear hA HK
  dsimp only
  go_wp2_with (with_reducible show wpList _ _ _ ({ dst := _, op := Op.convert 9 22 _, type := _, pos := _, after := _, guard := _ } :: _) _ _; refine Shut.out ?_)
  show wpList _ _ _ _ _ _
  refine wpList_conv rfl _ rfl t ht rfl ?_
  intro v4 w4 hO4 u4
  simp only [Act.put, List.setIfInBounds_toArray, List.set_cons_zero, List.set_cons_succ]
  go_wp2_with (with_reducible show wpList _ _ _ ({ dst := _, op := Op.call { callee := Callee.builtin Builtin.append, args := _, argTypes := _ }, type := _, pos := _, after := _, guard := _ } :: _) _ _; refine Shut.out ?_)
  show wpList _ _ _ _ _ _
  refine wpList_appsM rfl _ _ rfl w3.heap.size v4 t.data.toList [10] rfl hO4 rfl (by rw [← Go.Lib.size_eq]; simp only [List.length_cons, List.length_nil]; unfold nlen at hN; omega) u4.size ?_
  intro v5 w5 hO5 b5
  simp only [Act.put, List.setIfInBounds_toArray, List.set_cons_zero, List.set_cons_succ]
  have H5 := Hid.of (show OwnM w5 w.heap.size v5 (fmtP t.data.toList ss 0) ∧ Up w w5 from by
    refine ⟨?_, (H3.out.trans u4).step (Nat.le_trans H3.out.size (Nat.le_refl _)) b5⟩
    obtain ⟨g, cap, cur, fr, e, hg, r⟩ := hO5
    exact ⟨g, cap, cur, fr, e, Nat.le_trans H3.out.size hg, r⟩)
  clear hO4 u4 hO5 b5 H3
  go_wp2
  go_loopw [6, 35] (fun v6 v35 wr => ∃ i : Nat, v35 = .int .i64 (i : Int) ∧ i ≤ n ∧ Hid (OwnM wr w.heap.size v6 (fmtP t.data.toList ss i) ∧ Up w wr)) (fun _ v35 _ => n - (intOf v35).toNat)
  case atStart => exact ⟨0, rfl, by omega, H5.out⟩
  case round =>
    obtain ⟨i, rfl, hi, hI⟩ := hrel
    by_cases hlt : i < n
    · have hlt' : (i : Int) < (n : Int) := by omega
      have hltS : i < ss.length := by omega
      obtain ⟨b, off, rfl, a2, n2, c2, k1, k2, k3, rfl, k5⟩ := HG.out i hltS
      have k1' := hI.out.2.cell k1
      have k2' := hI.out.2.cell k2
      have k3' := hI.out.2.cell k3
      have HSl := Hid.of (k5.up hI.out.2)
      clear k1 k2 k3 k5
      have HM := Hid.of (List.getElem_mem hltS)
      have HX := Hid.of (fmtP_succ t.data.toList ss i hltS)
      generalize ss[i] = s at *
      have HZ := Hid.of (sgLen_le HM.out)
      have HP := Hid.of (fmtP_len t ss (i + 1))
      go_wp2_with fail
      refine (sigLine_walk s a2 c2 _ (HT.out.up (hI.out.2.alloc _)) (by exact HSl.out.up ((Up.refl wr).alloc _)) (by have := HZ.out; unfold sgLen at this; unfold nlen at hN; omega) (by have := HZ.out; unfold sgLen at this; unfold nlen at hN; omega) (HH.out s HM.out)).mono ?_
      rintro e w6 ⟨rfl, u6⟩
      have H6 := Hid.of ((Up.alloc (Up.refl wr) _).trans u6)
      clear u6
      rw [show vs (sigB s ++ [10]) = .string ⟨(sigB s ++ [10]).toArray⟩ from rfl]
      dsimp only
      go_wp2_with (with_reducible show wpList _ _ _ ({ dst := _, op := Op.call { callee := Callee.builtin Builtin.append, args := _, argTypes := _ }, type := _, pos := _, after := _, guard := _ } :: _) _ _; refine Shut.out ?_)
      show wpList _ _ _ _ _ _
      refine wpList_appsM rfl _ _ rfl w.heap.size _ (fmtP t.data.toList ss i) (sigB s ++ [10]) rfl (hI.out.1.up H6.out) rfl (by have := HP.out; rw [HX.out, List.length_append] at this; omega) (hI.out.2.trans H6.out).size ?_
      intro v7 w7 hO7 b7
      simp only [Act.put, List.setIfInBounds_toArray, List.set_cons_zero, List.set_cons_succ]
      have HN := Hid.of (show OwnM w7 w.heap.size v7 (fmtP t.data.toList ss (i + 1)) ∧ Up w w7 from ⟨by rw [HX.out]; exact hO7, (hI.out.2.trans H6.out).step (Nat.le_refl _) b7⟩)
      clear hO7 b7 H6 HX HSl k1' k2' k3'
      go_wp2
      go_roundw
      case rel => exact ⟨i + 1, by go_num, by omega, HN⟩
      case measure => simp [intOf]; omega
    · have hlt' : ¬ (i : Int) < (n : Int) := by omega
      have hin : i = ss.length := by omega
      go_wp2
      go_ret2
      refine ⟨_, _, rfl, .inr (.inr ⟨rfl, HLg.out, HF.out⟩), fun _ => ?_, fun h => absurd rfl h, hI.out.2⟩
      have := hI.out.1.sl
      unfold fmtP at this
      rwa [hin, List.take_length] at this
end Go.Proofs.YtbdbpmeaiiodgaaDoor
