import Derived.Test.YtaobnnlcfefodaaGreatDoorK2
import Derived.Test.YtaobnnlcfefodaaGreatDoorK4
import Derived.Test.YtaobnnlcfefodaaGreatDoorK3
import Derived.Test.YtaobnnlcfefodaaGreatDoorK1
namespace Go.Proofs.YtaobnnlcfefodaaGreatDoor
open Go.RowKit Go.Shelf TextNum
/-- FormatAsk's error -/
def fmE (o : Int) (n k : Nat) : Int := if o < 0 ∨ 281474976710656 < o then 1 else if 64 < n ∨ 65536 < k then 2 else 211
theorem fmE_ne (o : Int) (n k : Nat) : fmE o n k ≠ 0 := by
  unfold fmE
  split
  · decide
  · split <;> decide
/-- what FormatAsk answers, the program's and the document's -/
def FAR (o : Int) (hs : List (List UInt8)) (m : List UInt8) (w : World) (e : Ending) (w' : World) : Prop := ∃ v er, e = .returned (.tuple #[v, .int .i64 er]) ∧ Up w w' ∧ ((er = 0 ∧ VA o hs m ∧ OwnM w' w.heap.size v (fmA o hs m)) ∨ (er = fmE o hs.length m.length ∧ v = .slice none 0 0 ∧ ¬ VA o hs m))
theorem hl_32 {w : World} {pv : Value} {hs : List (List UInt8)} (h : HL w pv hs) : ∀ h ∈ hs, h.length = 32 := fun x hx => by
  obtain ⟨a, c, _, _, hx2⟩ := h
  obtain ⟨j, hj, rfl⟩ := List.getElem_of_mem hx
  exact (hx2 j hj).1
theorem fmP_len {o : Int} {hs : List (List UInt8)} {i : Nat} (o0 : -9223372036854775808 ≤ o) (o1 : o ≤ 9223372036854775807) (h32 : ∀ h ∈ hs, h.length = 32) (h64 : hs.length ≤ 64) : (fmP o hs i).length ≤ 4096 := by
  have h1 := hln_len (hs.take i) (fun h hh => h32 h (List.mem_of_mem_take hh))
  have h2 := (itoa_len o o0 o1).1
  have h3 : (hs.take i).length ≤ 64 := by rw [List.length_take]; omega
  unfold fmP
  simp only [List.length_append, h1, OLD, List.length_cons, List.length_nil]
  omega
set_option maxRecDepth 100000 in
set_option maxHeartbeats 4000000 in
theorem RFormatAsk_walk (w : World) (o : Int) (pv hv : Value) (hs : List (List UInt8)) (m : List UInt8) (hP : HL w pv hs) (hM : Sl w hv m) (hB : BTab w) :
    Calls Tryz.prog 6 #[.int .i64 o, pv, hv] w (FAR o hs m w) := by
  have HM := Hid.of hM
  have H32 := Hid.of (hl_32 hP)
  have hSp := RSplit_walk hv m w hM hB
  obtain ⟨hc, mc, rfl, hmc, _⟩ := id hM
  obtain ⟨pa, pc, rfl, hpc, hpx⟩ := id hP
  have HPX := Hid.of hpx
  obtain ⟨n, hnn⟩ : ∃ n, hs.length = n := ⟨_, rfl⟩
  obtain ⟨k, hk⟩ : ∃ k, m.length = k := ⟨_, rfl⟩
  have HN := Hid.of (And.intro hnn hk)
  have HE := Hid.of (show fmE o hs.length m.length = fmE o n k by rw [hnn, hk])
  rw [hnn] at hpc ⊢
  rw [hk] at hmc hSp HM ⊢
  clear hM hB hP hpx hnn hk
  by_cases z0 : o < 0
  · have HX := Hid.of (And.intro (show fmE o n k = 1 from if_pos (.inl z0)) (show ¬ VA o hs m from fun h => by have := h.o0; omega))
    clear hSp
    go_enter Tryz.func6, Tryz.ntmps6
    go_wp2
    go_ret2
    exact ⟨_, _, rfl, Up.refl _, .inr ⟨by rw [HE.out, HX.out.1], rfl, HX.out.2⟩⟩
  by_cases z1 : (281474976710656 : Int) < o
  · have HX := Hid.of (And.intro (show fmE o n k = 1 from if_pos (.inr z1)) (show ¬ VA o hs m from fun h => by have := h.o1; omega))
    clear hSp
    go_enter Tryz.func6, Tryz.ntmps6
    go_wp2
    go_ret2
    exact ⟨_, _, rfl, Up.refl _, .inr ⟨by rw [HE.out, HX.out.1], rfl, HX.out.2⟩⟩
  have H1 := Hid.of (show fmE o n k = if 64 < n ∨ 65536 < k then 2 else 211 from if_neg (by omega))
  by_cases z2 : (64 : Int) < (n : Int)
  · have HX := Hid.of (And.intro (show fmE o n k = 2 by rw [H1.out, if_pos (.inl (by omega))]) (show ¬ VA o hs m from fun h => by have := h.n; rw [HN.out.1] at this; omega))
    clear hSp
    go_enter Tryz.func6, Tryz.ntmps6
    go_wp2
    go_ret2
    exact ⟨_, _, rfl, Up.refl _, .inr ⟨by rw [HE.out, HX.out.1], rfl, HX.out.2⟩⟩
  by_cases z3 : (65536 : Int) < (k : Int)
  · have HX := Hid.of (And.intro (show fmE o n k = 2 by rw [H1.out, if_pos (.inr (by omega))]) (show ¬ VA o hs m from fun h => by have := (nt_iff.1 h.m).1; rw [HN.out.2] at this; omega))
    clear hSp
    go_enter Tryz.func6, Tryz.ntmps6
    go_wp2
    go_ret2
    exact ⟨_, _, rfl, Up.refl _, .inr ⟨by rw [HE.out, HX.out.1], rfl, HX.out.2⟩⟩
  have HX := Hid.of (show fmE o n k = 211 by rw [H1.out, if_neg (by omega)])
  go_enter Tryz.func6, Tryz.ntmps6
  go_wp2_with fail
  refine hSp.mono ?_
  rintro e w1 ⟨t, sv, qs, er, rfl, hr, _, _, u1, _⟩
  have HU1 := Hid.of u1
  clear hSp u1
  dsimp only
  have hor : (er ≠ 0 ∧ ¬ isNt m) ∨ (er = 0 ∧ isNt m) := by
    rcases hr with ⟨rfl, h⟩ | ⟨rfl, h, hn⟩ | ⟨rfl, h, hy⟩
    · exact .inl ⟨by decide, fun hb => by have := (nt_iff.1 hb).1; omega⟩
    · exact .inl ⟨by decide, fun hb => hn (nt_iff.1 hb).2⟩
    · exact .inr ⟨rfl, nt_iff.2 ⟨h, _, _, hy⟩⟩
  clear hr
  rcases hor with ⟨he, hno⟩ | ⟨rfl, hyes⟩
  · have HNO := Hid.of (show ¬ VA o hs m from fun h => hno h.m)
    clear hno
    go_wp2
    go_ret2
    exact ⟨_, _, rfl, HU1.out, .inr ⟨by rw [HE.out, HX.out], rfl, HNO.out⟩⟩
  have HVA := Hid.of (show VA o hs m from ⟨by omega, by omega, by rw [HN.out.1]; omega, H32.out, hyes⟩)
  clear hyes
  go_wp2_with fail
  refine (RFormat_walk o (by omega) (by omega) w1).mono ?_
  rintro e w2 ⟨rfl, u2⟩
  have HU2 := Hid.of (HU1.out.trans u2)
  clear u2 HU1
  obtain ⟨sO, hsO⟩ : ∃ s, (⟨(Go.Lib.itoa o).toArray⟩ : ByteArray) = s := ⟨_, rfl⟩
  have kO : sO.size ≤ 20 := by rw [← hsO, Go.Lib.size_eq]; exact (itoa_len o (by omega) (by omega)).1
  obtain ⟨s1, hs1⟩ : ∃ s, (⟨#[111, 108, 100, 32]⟩ : ByteArray) ++ sO = s := ⟨_, rfl⟩
  have k1 : s1.size ≤ 24 := by rw [← hs1, ByteArray.size_append, show (⟨#[111, 108, 100, 32]⟩ : ByteArray).size = 4 from rfl]; omega
  obtain ⟨s2, hs2⟩ : ∃ s, s1 ++ (⟨#[10]⟩ : ByteArray) = s := ⟨_, rfl⟩
  have k2 : s2.size ≤ 25 := by rw [← hs2, ByteArray.size_append, show (⟨#[10]⟩ : ByteArray).size = 1 from rfl]; omega
  have HS2 := Hid.of (show s2.data.toList = fmP o hs 0 by
    rw [← hs2, ← hs1, ← hsO]
    simp [fmP, OLD, ByteArray.data_append])
  rw [show vs (Go.Lib.itoa o) = .string sO from congrArg Value.string hsO]
  clear hsO
  dsimp only
  have HFL := Hid.of (fun i => show (fmP o hs i).length ≤ 4096 from fmP_len (by omega) (by omega) H32.out (by rw [HN.out.1]; omega))
  go_wp2
  clear hs1 hs2 k1 k2 kO
  go_loopw [11, 12] (fun v11 v12 wr => ∃ (i : Nat) (s : ByteArray), v12 = .int .i64 (i : Int) ∧ v11 = .string s ∧ i ≤ n ∧ Hid (s.data.toList = fmP o hs i ∧ Up w wr)) (fun _ v12 _ => n - (intOf v12).toNat)
  case atStart => exact ⟨0, s2, rfl, rfl, by omega, Hid.of ⟨HS2.out, HU2.out⟩⟩
  case round =>
    clear HS2 HU2
    obtain ⟨i, s, rfl, rfl, hi, HK⟩ := hrel
    have ksz : s.size ≤ 4096 := by rw [Go.Lib.size_eq, HK.out.1]; exact HFL.out i
    by_cases hlt : i < n
    · have hltz : (i : Int) < (n : Int) := by omega
      have hpcz : (n : Int) ≤ (pc : Int) := by omega
      have hiw : IntKind.i64.wrap ((i : Int) + 1) = (i : Int) + 1 := by rw [IntKind.wrap_i64]; omega
      have hil : i < hs.length := by rw [HN.out.1]; exact hlt
      obtain ⟨hx32, b, off, rfl, hbl, hrg⟩ := HPX.out i hil
      obtain ⟨x, hx⟩ : ∃ x, hs[i] = x := ⟨_, rfl⟩
      rw [hx] at hx32 hrg
      have HXS := Hid.of (show fmP o hs (i + 1) = fmP o hs i ++ hln x by
        unfold fmP
        rw [List.take_succ_eq_append_getElem hil, hx]
        simp)
      have HS5 := Hid.of (show Sl wr (.slice (some ⟨b, off + i * 32, none⟩) 32 32) x from ⟨_, 32, by rw [hx32], by rw [hx32]; omega, .inr ⟨b, off + i * 32, rfl, Nat.lt_of_lt_of_le hbl HK.out.2.size, fun j hj => (range_upW hrg HK.out.2) j _ (cb_get hj)⟩⟩)
      clear hx hrg
      go_wp2_with fail
      refine (REncode64_walk _ x wr HS5.out (by omega)).mono ?_
      rintro e w6 ⟨rfl, u6⟩
      have HU6 := Hid.of (HK.out.2.trans u6)
      clear u6 HS5
      obtain ⟨sB, hsB⟩ : ∃ s, (⟨(b64E x).toArray⟩ : ByteArray) = s := ⟨_, rfl⟩
      have kB : sB.size ≤ 44 := by rw [← hsB, Go.Lib.size_eq]; show (b64E x).length ≤ 44; rw [b64E_length, hx32]; decide
      obtain ⟨s3, hs3⟩ : ∃ t, s ++ sB = t := ⟨_, rfl⟩
      have k3 : s3.size ≤ 4140 := by rw [← hs3, ByteArray.size_append]; omega
      obtain ⟨s4, hs4⟩ : ∃ t, s3 ++ (⟨#[10]⟩ : ByteArray) = t := ⟨_, rfl⟩
      have HNX := Hid.of (show s4.data.toList = fmP o hs (i + 1) ∧ Up w w6 from ⟨by
        rw [HXS.out, ← HK.out.1, ← hs4, ← hs3, ← hsB]
        simp [hln, ByteArray.data_append], HU6.out⟩)
      rw [show vs (b64E x) = .string sB from congrArg Value.string hsB]
      clear hsB HK HU6 HXS
      dsimp only
      go_wp2
      go_roundw
      case rel => exact ⟨i + 1, s4, by go_num, rfl, by omega, HNX⟩
      case measure => simp [intOf]; omega
    · have hltz : ¬ (i : Int) < (n : Int) := by omega
      obtain rfl : i = n := by omega
      obtain ⟨s3, hs3⟩ : ∃ t, s ++ (⟨#[10]⟩ : ByteArray) = t := ⟨_, rfl⟩
      have k3 : s3.size ≤ 4097 := by rw [← hs3, ByteArray.size_append, show (⟨#[10]⟩ : ByteArray).size = 1 from rfl]; omega
      have hcv := conv_sl ((show Sl w (.slice hc k mc) m from HM.out).up HK.out.2)
      obtain ⟨sM, hsM⟩ : ∃ t, (⟨m.toArray⟩ : ByteArray) = t := ⟨_, rfl⟩
      have kM : sM.size ≤ 65536 := by rw [← hsM, Go.Lib.size_eq]; show m.length ≤ 65536; rw [HN.out.2]; omega
      rw [show vs m = .string sM from congrArg Value.string hsM] at hcv
      obtain ⟨s4, hs4⟩ : ∃ t, s3 ++ sM = t := ⟨_, rfl⟩
      have k4 : s4.size ≤ 140737488355328 := by rw [← hs4, ByteArray.size_append]; omega
      have HF := Hid.of (show s4.data.toList = fmA o hs m by
        have e : fmA o hs m = fmP o hs i ++ [10] ++ m := by
          unfold fmA fmP
          rw [← HN.out.1, List.take_length]
          simp
        rw [e, ← HK.out.1, ← hs4, ← hs3, ← hsM]
        simp [ByteArray.data_append])
      clear hsM
      go_wp2_with (with_reducible show wpList _ _ _ ({ dst := _, op := Op.convert 9 23 _, type := _, pos := _, after := _, guard := _ } :: _) _ _; refine Shut.out ?_)
      show wpList _ _ _ _ _ _
      clear hcv
      refine wpList_conv rfl _ rfl s4 k4 rfl ?_
      intro v7 w7 hO7 u7
      have H7 := Hid.of (show OwnM w7 w.heap.size v7 (fmA o hs m) ∧ Up w w7 from ⟨by rw [← HF.out]; exact hO7.base HK.out.2.size, HK.out.2.trans u7⟩)
      clear hO7 u7 HK HF
      simp only [Act.put, List.setIfInBounds_toArray, List.set_cons_zero, List.set_cons_succ]
      go_wp2
      go_ret2
      exact ⟨_, _, rfl, H7.out.2, .inl ⟨rfl, HVA.out, H7.out.1⟩⟩
end Go.Proofs.YtaobnnlcfefodaaGreatDoor
namespace Go.Proofs.YtaobnnlcfefodaaGreatDoor
open Go.RowKit Go.Shelf TextNum
/-! ### the document's loose reading, in plain lists -/
def filA (b : List UInt8) (j : Nat) : List UInt8 := b.take j ++ List.replicate (32 - j) 0
theorem filA_len {b : List UInt8} {j : Nat} (h : j ≤ b.length) (h2 : j ≤ 32) : (filA b j).length = 32 := by simp [filA]; omega
theorem filA_set {b : List UInt8} {j : Nat} (h : j < b.length) (h2 : j < 32) : (filA b j).set j b[j] = filA b (j + 1) := by
  unfold filA
  rw [List.take_succ_eq_append_getElem h, List.set_append_right _ _ (by simp; omega)]
  simp only [List.length_take, Nat.min_eq_left (Nat.le_of_lt h), Nat.sub_self]
  rw [show 32 - j = (32 - (j + 1)) + 1 by omega, List.replicate_succ, List.set_cons_zero, List.append_assoc]
  rfl
theorem filA_all {b : List UInt8} (h : b.length = 32) : filA b 32 = b := by
  unfold filA
  rw [List.take_of_length_le (by omega)]
  simp
/-- a hash as it is read of a line -/
def hdA (line : List UInt8) : List UInt8 := filA (b64R line).1 (min (b64R line).1.length 32)
theorem hdA_len (line : List UInt8) : (hdA line).length = 32 := filA_len (Nat.min_le_left _ _) (Nat.min_le_right _ _)
theorem hdA_b64 {x : List UInt8} (h : x.length = 32) : hdA (b64E x) = x := by
  have hl : (b64E x).length ≤ 1048576 := by rw [b64E_length, h]; decide
  unfold hdA
  rw [b64R_back x hl]
  show filA x (min x.length 32) = x
  rw [h]
  exact filA_all h
def LI (l : List UInt8) (ks : List (List UInt8)) (line rest : List UInt8) : Prop := ∀ o hs m, VA o hs m → l = fmA o hs m → ∃ k, k ≤ hs.length ∧ ks = hs.take k ∧ line = lnA (rst hs m k) ∧ rest = rsA (rst hs m k)
theorem LI.step {l : List UInt8} {ks : List (List UInt8)} {line rest : List UInt8} (h : LI l ks line rest) (hne : line ≠ []) : LI l (ks ++ [hdA line]) (lnA rest) (rsA rest) := fun o hs m v e => by
  obtain ⟨k, h1, h2, h3, h4⟩ := h o hs m v e
  have hk : k < hs.length := by
    rcases Nat.lt_or_ge k hs.length with h5 | h5
    · exact h5
    · rw [(rst_end h5).1] at h3; exact absurd h3 hne
  obtain ⟨e1, e2⟩ := rst_step (m := m) hk
  rw [e1] at h3
  rw [e2] at h4
  refine ⟨k + 1, hk, ?_, by rw [h4], by rw [h4]⟩
  rw [h2, h3, hdA_b64 (v.l _ (List.getElem_mem hk)), List.take_succ_eq_append_getElem hk]
theorem LI.done {l : List UInt8} {ks : List (List UInt8)} {line rest : List UInt8} (h : LI l ks line rest) (hd : line = [] ∨ 64 < ks.length) {o : Int} {hs : List (List UInt8)} {m : List UInt8} (v : VA o hs m) (e : l = fmA o hs m) : ks = hs ∧ rest = m := by
  obtain ⟨k, h1, h2, h3, h4⟩ := h o hs m v e
  rcases hd with hd | hd
  · have hk : hs.length ≤ k := by
      rcases Nat.lt_or_ge k hs.length with h5 | h5
      · rw [(rst_step h5).1] at h3
        exact absurd (h3.symm.trans hd) (b64E_ne (v.l _ (List.getElem_mem h5)))
      · exact h5
    exact ⟨by rw [h2, List.take_of_length_le hk], by rw [h4, (rst_end hk).2]⟩
  · exfalso
    have := v.n
    rw [h2, List.length_take] at hd
    omega
theorem LI.first (l : List UInt8) : LI l [] (lnA (rsA l)) (rsA (rsA l)) := fun o hs m v e => ⟨0, Nat.zero_le _, rfl, by rw [e, (fmA_line v).2], by rw [e, (fmA_line v).2]⟩
theorem old_first {l : List UInt8} {o : Int} {hs : List (List UInt8)} {m : List UInt8} (v : VA o hs m) (e : l = fmA o hs m) : 5 ≤ (lnA l).length ∧ (prs ((lnA l).drop 4) 281474976710656).1 = o := by
  have h1 : lnA l = OLD ++ Go.Lib.itoa o := by rw [e]; exact (fmA_line v).1
  rw [h1, show (OLD ++ Go.Lib.itoa o).drop 4 = Go.Lib.itoa o from rfl, prs_back v.o0 v.o1]
  refine ⟨?_, rfl⟩
  have h2 : Go.Lib.itoa o ≠ [] := fun h0 => by
    have := prs_back v.o0 v.o1
    rw [h0] at this
    have h3 : (prs [] 281474976710656).2 = 0 := congrArg (fun p => p.2) this
    revert h3
    decide
  have h3 : 0 < (Go.Lib.itoa o).length := List.length_pos_iff.2 h2
  show 5 ≤ (OLD ++ Go.Lib.itoa o).length
  rw [List.length_append, show OLD.length = 4 from rfl]
  omega
/-! ### an array of 32 bytes of one's own -/
structure AR (w : World) (g : Nat) (l : List UInt8) (W : World) : Prop where
  n : l.length = 32
  rg : W.rangeAt g 0 (cb l)
  th : W.there g 0 32
  b : w.heap.size ≤ g
  lt : g < W.heap.size
  u : Up w W
theorem AR.up {w W W' : World} {g : Nat} {l : List UInt8} (h : AR w g l W) (u : Up W W') : AR w g l W' := ⟨h.n, range_upW h.rg u, there_up h.th h.lt u, h.b, Nat.lt_of_lt_of_le h.lt u.size, h.u.trans u⟩
theorem AR.set {w W : World} {g j : Nat} {l : List UInt8} (h : AR w g l W) (hj : j < 32) (y : UInt8) : AR w g (l.set j y) (W.setCell ⟨g, j, none⟩ (.int .u8 (y.toNat : Int))) := by
  refine ⟨by rw [List.length_set]; exact h.n, fun k u hu => ?_, World.there_setCells h.th g j [_], h.b, ?_, Below.setCell (p := ⟨g, j, none⟩) h.u h.b _⟩
  · have hlen : (cb l).length = 32 := by rw [cb_length]; exact h.n
    have hs : cb (l.set j y) = (cb l).set j (.int .u8 (y.toNat : Int)) := by simp [cb, List.map_set]
    rw [hs] at hu
    rw [Nat.zero_add]
    by_cases e : k = j
    · subst e
      rw [List.getElem?_set_self (by omega)] at hu
      have h0 := h.rg k ((cb l)[k]'(by omega)) (List.getElem?_eq_getElem _)
      rw [Nat.zero_add] at h0
      rw [World.cell?_setCell_same W _ _ h0]
      exact hu
    · rw [List.getElem?_set_ne (fun h => e h.symm)] at hu
      have h0 := h.rg k u hu
      rw [Nat.zero_add] at h0
      have hne : (⟨g, j, none⟩ : Addr) ≠ ⟨g, k, none⟩ := by intro e2; injection e2 with _ e2 _; exact e e2.symm
      have h5 : (W.setCell ⟨g, j, none⟩ (.int .u8 (y.toNat : Int))).cell? ⟨g, k, none⟩ = W.cell? ⟨g, k, none⟩ := by
        first
          | exact World.cell?_setCell_other W _ _ _ hne
          | exact World.cell?_setCell_other W _ _ hne
      rw [h5, h0]
  · have := (KeepsWalks.setCell W ⟨g, j, none⟩ (.int .u8 (y.toNat : Int))).size
    have := h.lt
    omega
/-! ### lists of hashes of the document's -/
set_option maxRecDepth 100000 in
theorem build_ha : ∀ (x : List UInt8), x.length = 32 → ∀ w : World, (Instr.buildSlice 22 1 #[(0, .agg (cb x).toArray)]).run Tryz.prog w = .ok (.slice (some ⟨w.heap.size, 0, none⟩) 1 1) (w.alloc (.cells (cb x).toArray 48))
  | [x0, x1, x2, x3, x4, x5, x6, x7, x8, x9, x10, x11, x12, x13, x14, x15, x16, x17, x18, x19, x20, x21, x22, x23, x24, x25, x26, x27, x28, x29, x30, x31], _, w => by kernel_rfl
theorem exec_buildHa {ρ : Operand → Value} {o : Oper} {ps : Array (Nat × Operand)} {w : World} {x : List UInt8} (hx : x.length = 32) (ho : o.op = .buildSlice 22 1 ps) (hv : (ps.map fun (i, y) => (i, ρ y)) = #[(0, .agg (cb x).toArray)]) : (execOp ρ o).run Tryz.prog w = .ok (.value (.slice (some ⟨w.heap.size, 0, none⟩) 1 1)) (w.alloc (.cells (cb x).toArray 48)) := by
  unfold execOp
  simp only [ho, hv, Sem.run_bind, build_ha x hx w, Result.andThen_ok, Sem.run_pure]
theorem wpList_buildHa {ops : Array Oper} {rest : List Oper} {o : Oper} {a : Act} {w : World} {Q : Exit → Act → World → Prop} (hgd : o.guard = none) (ps : Array (Nat × Operand)) (ho : o.op = .buildSlice 22 1 ps) {x : List UInt8} (hx : x.length = 32) (hv : (ps.map fun (i, y) => (i, a.eval y)) = #[(0, .agg (cb x).toArray)])
    (h : wpList Tryz.prog ops Q rest (a.put o.dst (.slice (some ⟨w.heap.size, 0, none⟩) 1 1)) (w.alloc (.cells (cb x).toArray 48))) : wpList Tryz.prog ops Q (o :: rest) a w :=
  wpList_plain hgd fun K hK => by
    unfold Oper.wp
    rw [exec_buildHa hx ho hv]
    exact hK _ _ h
def HOa (w : World) (B : Nat) (v : Value) (hs : List (List UInt8)) : Prop := w.ownsRow B 48 32 v hs.length (hs.flatMap cb)
theorem infoA32z : (Tryz.prog.info? 48).map (fun i => (i.zero, i.size, i.bytes)) = some (some (.agg (cb zH).toArray), 32, 32) := by kernel_rfl
theorem HOa.hl {w : World} {B : Nat} {v : Value} {hs : List (List UInt8)} (h : HOa w B v hs) (l : ∀ h ∈ hs, h.length = 32) : HL w v hs := by
  rcases h.2 with ⟨rfl, h0⟩ | ⟨g, cap, cur, rfl, _, hg, hc, _⟩
  · refine ⟨none, 0, by rw [h0], by omega, fun j hj => ?_⟩
    omega
  · refine ⟨_, cap, rfl, hc, fun j hj => ⟨l _ (List.getElem_mem hj), g, 0, rfl, (World.ownsRow.lt h g rfl).2, fun i u hu => ?_⟩⟩
    have := World.ownsRow.cells h (g := g) rfl (j * 32 + i) u (hs_get hs l j hj i u hu)
    rw [add_plain, Nat.zero_add] at this
    rw [Nat.zero_add]
    exact this
theorem HOa.up {w w' : World} {B : Nat} {v : Value} {hs : List (List UInt8)} (h : HOa w B v hs) (u : Up w w') : HOa w' B v hs := by
  have hl := World.ownsRow.lt h
  refine ⟨h.1, ?_⟩
  rcases h.2 with e | ⟨g, cap, cur, rfl, hb, hg, r⟩
  · exact .inl e
  · exact .inr ⟨g, cap, cur, rfl, hb, (u.block g (hl g rfl).2).trans hg, r⟩
def vlenA : Value → Nat
  | .slice _ n _ => n
  | _ => 0
/-- what the document's ParseAsk answers -/
def RAR (l : List UInt8) (w : World) (e : Ending) (w' : World) : Prop := ∃ n pv hv er, e = .returned (.tuple #[.int .i64 n, pv, hv, .int .i64 er]) ∧ Up w w' ∧
  ((er = 0 ∧ ∃ hs m, VA n hs m ∧ l = fmA n hs m ∧ HOa w' w.heap.size pv hs ∧ OwnM w' w.heap.size hv m) ∨ (er = paE l.length ∧ n = 0 ∧ pv = .slice none 0 0 ∧ hv = .slice none 0 0 ∧ ¬ Ask l))
theorem RAR_no {l : List UInt8} {w w' : World} {er : Int} (u : Up w w') (he : er = paE l.length) (h : ¬ Ask l) : RAR l w (.returned (.tuple #[.int .i64 0, .slice none 0 0, .slice none 0 0, .int .i64 er])) w' := ⟨_, _, _, _, rfl, u, .inr ⟨he, rfl, rfl, rfl, h⟩⟩
end Go.Proofs.YtaobnnlcfefodaaGreatDoor
namespace Go.Proofs.YtaobnnlcfefodaaGreatDoor
open Go.RowKit Go.Shelf TextNum
theorem bytes_ne {a b : ByteArray} (h : ¬ a = b) : (a.toList == b.toList) = false := by
  refine beq_eq_false_iff_ne.2 fun e => h (ba_list7 ?_)
  rw [← Go.Lib.toList_data, ← Go.Lib.toList_data, e]
theorem ba_empty {q : ByteArray} (h : q.data.toList = []) : q = ⟨#[]⟩ := ba_list7 h
theorem ba_isEmpty {q : ByteArray} (h : q.data.toList ≠ []) : q.toList.isEmpty = false := by
  rw [Go.Lib.toList_data]
  cases hq : q.data.toList with
  | nil => exact absurd hq h
  | cons c a => rfl
theorem lnA_le (l : List UInt8) : (lnA l).length ≤ l.length := (List.takeWhile_prefix _).length_le
set_option maxRecDepth 100000 in
set_option maxHeartbeats 8000000 in
theorem RParseAsk_walk (v : Value) (l : List UInt8) (w : World) (hS : Sl w v l) (hB : BTab w) : Calls Tryz.prog 14 #[v] w (RAR l w) := by
  obtain ⟨ih, iha, ihb, ihc, ihd⟩ := info_parts infoA32z
  have HB := Hid.of hB
  have HC := Hid.of (conv_sl hS)
  clear hB
  obtain ⟨sa, sc, rfl, hc, _⟩ := hS
  obtain ⟨n, hn⟩ : ∃ n, l.length = n := ⟨_, rfl⟩
  rw [hn] at hc HC ⊢
  go_enter Tryz.func14, Tryz.ntmps14
  by_cases hL : 69000 < n
  · have hLz : (69000 : Int) < (n : Int) := by omega
    have HNO := Hid.of (show ¬ Ask l from fun ⟨o, hs, m, vv, e⟩ => by have := fm_len vv; rw [← e] at this; omega)
    have HER := Hid.of (show paE l.length = 2 by rw [hn]; exact if_pos hL)
    clear hn
    go_wp2
    try simp only [Exit.inBlock, Exit.then]
    refine bodyPost_ret (results_tmp4 rfl _ _ _) rfl ?_
    exact RAR_no (Up.refl _) HER.out.symm HNO.out
  have HER := Hid.of (show paE l.length = 211 by rw [hn]; exact if_neg hL)
  have hLz : ¬ (69000 : Int) < (n : Int) := by omega
  have hcv := HC.out
  obtain ⟨s, hs⟩ : ∃ s, (⟨l.toArray⟩ : ByteArray) = s := ⟨_, rfl⟩
  have HSL := Hid.of (show s.data.toList = l by rw [← hs])
  have hsz : s.size = n := by rw [Go.Lib.size_eq, HSL.out, hn]
  rw [show vs l = .string s from congrArg Value.string hs] at hcv
  clear hs hn HC
  go_wp2_with fail
  refine (lineOf_walk s 0 (Nat.zero_le _) (by omega) w).mono ?_
  rintro e w1 ⟨⟨at1, rfl, hat1, hr1⟩, rfl⟩
  clear hcv
  rw [HSL.out, List.drop_zero] at hr1 ⊢
  obtain ⟨f, hf⟩ : ∃ s, (⟨(lnA l).toArray⟩ : ByteArray) = s := ⟨_, rfl⟩
  have HF := Hid.of (show f.data.toList = lnA l by rw [← hf])
  rw [hf]
  clear hf
  have hfz : f.size ≤ 69000 := by
    have h1 := lnA_le l
    rw [Go.Lib.size_eq, HF.out]
    have h2 := HSL.out
    have h3 := Go.Lib.size_eq s
    rw [h2] at h3
    omega
  have HR1 := Hid.of hr1
  clear hr1
  dsimp only
  by_cases h5 : f.size < 5
  · have h5z : (f.size : Int) < 5 := by omega
    have HNO := Hid.of (show ¬ Ask l from fun ⟨o, hs, m, vv, e⟩ => by
      have := (old_first vv e).1
      rw [← HF.out, ← Go.Lib.size_eq] at this
      omega)
    go_wp2
    try simp only [Exit.inBlock, Exit.then]
    refine bodyPost_ret (results_tmp4 rfl _ _ _) rfl ?_
    exact RAR_no (Up.refl _) HER.out.symm HNO.out
  have h5z : ¬ (f.size : Int) < 5 := by omega
  have h4z : (4 : Int) ≤ (f.size : Int) := by omega
  obtain ⟨d, hd⟩ : ∃ d, f.extract 4 f.size = d := ⟨_, rfl⟩
  have HD := Hid.of (show d.data.toList = (lnA l).drop 4 by
    rw [← hd, ext_strW, ← HF.out]
    show (f.data.toList.drop 4).take (f.size - 4) = _
    rw [List.take_of_length_le (by rw [List.length_drop, Go.Lib.size_eq]; exact Nat.le_refl _)])
  have hP := RParse_walk d 281474976710656 (by decide) (by decide) w1
  rw [HD.out] at hP
  have HOLD := Hid.of (fun (o : Int) (hs : List (List UInt8)) (m : List UInt8) (v : VA o hs m) (e : l = fmA o hs m) => (old_first v e).2)
  generalize prs ((lnA l).drop 4) 281474976710656 = q at *
  obtain ⟨old, qe⟩ := q
  dsimp only at hP HOLD
  go_wp2_with fail
  refine hP.mono ?_
  rintro e w2 ⟨rfl, u2⟩
  have HU2 := Hid.of u2
  clear hP u2 hd
  dsimp only
  go_wp2_with fail
  refine (lineOf_walk s at1 hat1 (by omega) w2).mono ?_
  rintro e w3 ⟨⟨at2, rfl, hat2, hr2⟩, rfl⟩
  rw [HSL.out, HR1.out] at hr2 ⊢
  obtain ⟨q, hq⟩ : ∃ s, (⟨(lnA (rsA l)).toArray⟩ : ByteArray) = s := ⟨_, rfl⟩
  have HI := Hid.of (show LI l [] q.data.toList (l.drop at2) by
    rw [← hq, hr2]
    exact LI.first l)
  rw [hq]
  clear hq hr2
  dsimp only
  go_wp2
  go_loopw [8, 11, 12, 13, 14, 15, 16] (fun v8 v11 v12 _ _ _ _ wr => ∃ (at' : Nat) (ks : List (List UInt8)) (q : ByteArray), v8 = .int .i64 (at' : Int) ∧ v12 = .string q ∧ vlenA v11 = ks.length ∧ at' ≤ s.size ∧ Hid (HOa wr w1.heap.size v11 ks ∧ (∀ k ∈ ks, k.length = 32) ∧ ks.length ≤ 65 ∧ LI l ks q.data.toList (l.drop at') ∧ Up w1 wr)) (fun _ v11 _ _ _ _ _ _ => 65 - vlenA v11)
  case atStart => exact ⟨at2, [], q, rfl, rfl, rfl, hat2, Hid.of ⟨World.ownsRow_nil _ _ _ _, (fun h hh => by cases hh), by simp, HI.out, HU2.out⟩⟩
  case round =>
    clear HI HU2
    obtain ⟨at', ks, q, rfl, rfl, hvl, hat', HK⟩ := hrel
    obtain ⟨wo, hwo⟩ : ∃ wo, wo = wr := ⟨_, rfl⟩
    subst hwo
    obtain ⟨pa, pc, hpv⟩ := rowH HK.out.1
    obtain ⟨k, hk⟩ : ∃ n, ks.length = n := ⟨_, rfl⟩
    rw [hk] at hpv hvl
    subst hpv
    have HN := Hid.of (And.intro hk trivial)
    have hk65 : k ≤ 65 := by rw [← hk]; exact HK.out.2.2.1
    clear hk hvl
    have hor : (q.data.toList ≠ [] ∧ k ≤ 64) ∨ (q.data.toList = [] ∨ 64 < k) := by
      by_cases h1 : q.data.toList = []
      · exact .inr (.inl h1)
      · by_cases h2 : k ≤ 64
        · exact .inl ⟨h1, h2⟩
        · exact .inr (.inr (by omega))
    rcases hor with ⟨hne, hk64⟩ | hdone
    · have hne' : q.toList.isEmpty = false := ba_isEmpty hne
      have hk64z : (k : Int) ≤ 64 := by omega
      have HNE := Hid.of hne
      clear hne
      go_wp2_with fail
      change Calls _ _ _ (wo.alloc (Obj.cells (cb zH).toArray 48)) _
      have ht := there_new wo (cb zH) 48
      have hu0 := (Up.refl wo).alloc (Obj.cells (cb zH).toArray 48)
      have hsz0 : wo.heap.size < (wo.alloc (Obj.cells (cb zH).toArray 48)).heap.size := by rw [World.alloc]; simp
      have HA0 := Hid.of (show AR wo wo.heap.size zH (wo.alloc (Obj.cells (cb zH).toArray 48)) from ⟨rfl, fun j u hu => by
        rw [World.cell?_alloc_at _ _ _ _ rfl, Nat.zero_add]
        simpa using hu, ht, Nat.le_refl _, hsz0, hu0⟩)
      generalize wo.alloc (Obj.cells (cb zH).toArray 48) = W4 at *
      generalize hgb : wo.heap.size = gb at *
      clear ht hu0
      refine (RDecode64_walk q W4).mono ?_
      rintro e W5 ⟨bv, rfl, hO, u5⟩
      have HA5 := Hid.of (HA0.out.up u5)
      clear u5 HA0
      dsimp only
      obtain ⟨x, hx⟩ : ∃ x, (b64R q.data.toList).1 = x := ⟨_, rfl⟩
      rw [hx] at hO
      have HX := Hid.of (show hdA q.data.toList = filA x (min x.length 32) by unfold hdA; rw [hx])
      generalize (b64R q.data.toList).2 = xe at *
      clear hx
      obtain ⟨ba, bc, rfl⟩ := row_lenW hO
      obtain ⟨xn, hxn⟩ : ∃ n, x.length = n := ⟨_, rfl⟩
      rw [hxn] at hO ⊢
      have HXN := Hid.of (And.intro hxn trivial)
      have HBC := Hid.of (show xn ≤ bc ∧ ∀ j (hj : j < xn), ∃ g, ba = some ⟨g, 0, none⟩ ∧ g ≠ gb ∧ W5.cell? ⟨g, j, none⟩ = some (.int .u8 ((x[j]'(by rw [HXN.out.1]; exact hj)).toNat : Int)) by
        rcases hO.2 with ⟨e1, h0⟩ | ⟨g, cap, cur, e1, hbg, hg, hcm, _⟩
        · injection e1 with _ e2 _
          exact ⟨by omega, fun j hj => by omega⟩
        · injection e1 with e1 _ e3
          subst e1 e3
          refine ⟨by omega, fun j hj => ⟨g, rfl, by omega, ?_⟩⟩
          have := World.ownsRow.cells hO rfl j _ (cb_get (l := x) (by rw [HXN.out.1]; exact hj))
          rw [add_plain, Nat.zero_add] at this
          exact this)
      have hbc : (xn : Int) ≤ (bc : Int) := by have := HBC.out.1; omega
      clear hO hxn
      go_wp2
      go_loopw [16] (fun v16 wq => ∃ j : Nat, v16 = .int .i64 (j : Int) ∧ j ≤ xn ∧ j ≤ 32 ∧ Hid (AR wo gb (filA x j) wq ∧ ∀ j (hj : j < xn), ∃ g, ba = some ⟨g, 0, none⟩ ∧ g ≠ gb ∧ wq.cell? ⟨g, j, none⟩ = some (.int .u8 ((x[j]'(by rw [HXN.out.1]; exact hj)).toNat : Int)))) (fun v16 _ => 32 - (intOf v16).toNat)
      case atStart => exact ⟨0, rfl, by omega, by omega, Hid.of ⟨HA5.out, HBC.out.2⟩⟩
      case round =>
        obtain ⟨j, rfl, hj1, hj2, hK⟩ := hrel
        by_cases hgo : j < xn ∧ j < 32
        · obtain ⟨g1, g2⟩ := hgo
          have g3 : (j : Int) < (xn : Int) := by omega
          have g4 : (j : Int) < 32 := by omega
          have hjl : j < x.length := by rw [HXN.out.1]; exact g1
          obtain ⟨g, rfl, hgn, hgc⟩ := hK.out.2 j g1
          have cs := hK.out.1.rg j ((cb (filA x j))[j]'(by rw [cb_length, hK.out.1.n]; exact g2)) (List.getElem?_eq_getElem _)
          have cf := (hK.out.1.th j g2).2
          simp only [Nat.zero_add] at cs cf
          generalize (cb (filA x j))[j]'(by rw [cb_length, hK.out.1.n]; exact g2) = old at cs
          have HN2 := Hid.of (And.intro (hK.out.1.set g2 x[j]) (show ∀ j' (hj : j' < xn), ∃ g', some (⟨g, 0, none⟩ : Addr) = some ⟨g', 0, none⟩ ∧ g' ≠ gb ∧ (wr.setCell ⟨gb, j, none⟩ (.int .u8 (x[j].toNat : Int))).cell? ⟨g', j', none⟩ = some (.int .u8 ((x[j']'(by rw [HXN.out.1]; exact hj)).toNat : Int)) from fun j' hj' => by
            obtain ⟨g', e1, e2, e3⟩ := hK.out.2 j' hj'
            refine ⟨g', e1, e2, ?_⟩
            rw [World.cell?_setCell_far _ _ _ _ (fun e => e2 e.symm)]
            exact e3))
          rw [filA_set hjl g2] at HN2
          generalize x[j] = y at *
          clear hK
          go_wp2
          go_roundw
          case rel => exact ⟨j + 1, by go_num, by omega, by omega, HN2⟩
          case measure => simp [intOf]; omega
        · have HAE := Hid.of (show AR wo gb (hdA q.data.toList) wr by
            rw [HX.out, show min x.length 32 = j by rw [HXN.out.1]; omega]
            exact hK.out.1)
          have hor3 : ¬ ((j : Int) < (xn : Int)) ∨ ((j : Int) < (xn : Int) ∧ ¬ (j : Int) < 32) := by omega
          clear hK HA5 HBC hgo
          have hy32 := hdA_len q.data.toList
          have HSTEP := Hid.of (HK.out.2.2.2.1.step HNE.out)
          generalize hdA q.data.toList = y at *
          have hcl : (cb y).length = 32 := by rw [cb_length]; exact hy32
          have HUA := Hid.of HAE.out.u
          rcases hor3 with g3 | ⟨g3, g4⟩
          all_goals
            go_wp2_with (with_reducible show wpList _ _ _ ({ dst := _, op := Op.load 48 _, type := _, pos := _, after := _, guard := _ } :: _) _ _; refine Shut.out ?_)
            show wpList _ _ _ _ _ _
            refine wpList_load_mid rfl _ _ rfl gb 0 rfl (cb y) _ HAE.out.rg Tryz.underlying48 rfl (by rw [hcl]; exact infoA32) ?_
            simp only [Act.put, List.setIfInBounds_toArray, List.set_cons_zero, List.set_cons_succ]
            refine wpList_buildHa rfl _ rfl hy32 (by simp only [List.map_toArray, List.map_cons, List.map_nil]; rfl) ?_
            simp only [Act.put, List.setIfInBounds_toArray, List.set_cons_zero, List.set_cons_succ]
            have HU6 := Hid.of ((Up.refl wr).alloc (.cells (cb y).toArray 48))
            have HA6 := Hid.of (fun (j : Nat) (u : Value) (hu : (cb y)[j]? = some u) => show (wr.alloc (.cells (cb y).toArray 48)).cell? ((⟨wr.heap.size, 0, none⟩ : Addr).add j) = some u by
              rw [add_plain, World.cell?_alloc_at _ _ _ _ rfl, Nat.zero_add]
              simpa using hu)
            have HUU := Hid.of ((HK.out.2.2.2.2.trans HUA.out).trans HU6.out)
            have hO := (HK.out.1.up HUA.out).up HU6.out
            unfold HOa at hO
            rw [HN.out.1] at hO
            refine wpList_append_own _ rfl _ _ 22 rfl w1.heap.size 48 ih (.agg (cb zH).toArray) 32 32 Tryz.underlying22 iha ihb ihc ihd rfl (by decide) (.slice pa k pc) k (ks.flatMap cb) rfl hO ⟨wr.heap.size, 0, none⟩ 1 1 (cb y) rfl (by rw [hcl]) (fun j u hu => HA6.out j u hu) (fun u hu => cb_one y u hu) (by simp only [maxLen]; omega) (by omega) HUU.out.size ?_
            intro v7 w7 o7 g7 _
            simp only [Act.put, List.setIfInBounds_toArray, List.set_cons_zero, List.set_cons_succ]
            have HNX := Hid.of (show HOa w7 w1.heap.size v7 (ks ++ [y]) ∧ Up w1 w7 from ⟨by
              unfold HOa
              rw [flatB_snoc, List.length_append, HN.out.1]
              exact o7, HUU.out.by' g7 (fun g hg => (World.ownsRow.lt hO g hg).1)⟩)
            have hvl7 : vlenA v7 = k + 1 := by
              obtain ⟨a7, c7, e7⟩ := rowH o7
              rw [e7]
              rfl
            have HV7 := Hid.of hvl7
            clear o7 g7 hO HU6 HA6 HUU HUA HAE hvl7
            go_wp2_with fail
            refine (lineOf_walk s at' hat' (by omega) w7).mono ?_
            rintro e w8 ⟨⟨at3, rfl, hat3, hr3⟩, rfl⟩
            rw [HSL.out] at hr3 ⊢
            obtain ⟨q3, hq3⟩ : ∃ t, (⟨(lnA (l.drop at')).toArray⟩ : ByteArray) = t := ⟨_, rfl⟩
            have HR := Hid.of (show (∀ k ∈ ks ++ [y], k.length = 32) ∧ (ks ++ [y]).length = k + 1 ∧ LI l (ks ++ [y]) q3.data.toList (l.drop at3) from ⟨fun h hh => by
              rcases List.mem_append.1 hh with h1 | h1
              · exact HK.out.2.1 h h1
              · rw [List.mem_singleton.1 h1]; exact hy32, by rw [List.length_append, HN.out.1]; rfl, by
              rw [← hq3, hr3]
              exact HSTEP.out⟩)
            rw [hq3]
            clear hq3 hr3
            dsimp only
            go_wp2
            go_roundw
            case rel => exact ⟨at3, ks ++ [y], q3, rfl, rfl, by rw [HV7.out, HR.out.2.1], hat3, Hid.of ⟨HNX.out.1, HR.out.1, by rw [HR.out.2.1]; omega, HR.out.2.2, HNX.out.2⟩⟩
            case measure => rw [HV7.out]; show 65 - (k + 1) < 65 - k; omega
    · have HDN := Hid.of hdone
      have hdz : q = ⟨#[]⟩ ∨ (q.toList.isEmpty = false ∧ ¬ (k : Int) ≤ 64) := by
        by_cases h1 : q.data.toList = []
        · exact .inl (ba_empty h1)
        · exact .inr ⟨ba_isEmpty h1, by rcases hdone with h | h; exact absurd h h1; omega⟩
      have HDONE := Hid.of (fun (o : Int) (hs : List (List UInt8)) (m : List UInt8) (v : VA o hs m) (e : l = fmA o hs m) => HK.out.2.2.2.1.done (by rw [HN.out.1]; exact HDN.out) v e)
      clear hdone HDN
      have hatz : (at' : Int) ≤ (s.size : Int) := by omega
      obtain ⟨sh, hsh⟩ : ∃ t, s.extract at' n = t := ⟨_, rfl⟩
      have HSH := Hid.of (show sh.data.toList = l.drop at' by
        rw [← hsh, ext_strW, ← hsz, HSL.out, List.take_of_length_le (by rw [List.length_drop, ← HSL.out, Go.Lib.size_eq]; exact Nat.le_refl _)])
      have hshz : sh.size ≤ 140737488355328 := by
        have h1 := Go.Lib.size_eq s
        rw [Go.Lib.size_eq, HSH.out, List.length_drop, ← HSL.out]
        omega
      rcases hdz with rfl | ⟨hne, hk⟩
      all_goals
        go_wp2_with (with_reducible show wpList _ _ _ ({ dst := _, op := Op.convert 9 23 _, type := _, pos := _, after := _, guard := _ } :: _) _ _; refine Shut.out ?_)
        show wpList _ _ _ _ _ _
        refine wpList_conv rfl _ rfl sh hshz rfl ?_
        intro v7 w7 hO7 u7
        have HU7 := Hid.of (HK.out.2.2.2.2.trans u7)
        have HM7 := Hid.of (show OwnM w7 w1.heap.size v7 (l.drop at') by rw [← HSH.out]; exact hO7.base HK.out.2.2.2.2.size)
        have HH7 := Hid.of ((HK.out.1.hl HK.out.2.1).up u7)
        have HR7 := Hid.of (HK.out.1.up u7)
        clear hO7 u7 hsh
        simp only [Act.put, List.setIfInBounds_toArray, List.set_cons_zero, List.set_cons_succ]
        go_wp2_with fail
        refine (RFormatAsk_walk w7 old (.slice pa k pc) v7 ks (l.drop at') HH7.out HM7.out.sl (fun k hk => HU7.out.cell (HB.out k hk))).mono ?_
        rintro e w8 ⟨bv, er, rfl, u8, hr⟩
        have HU8 := Hid.of (HU7.out.trans u8)
        have HH8 := Hid.of (HR7.out.up u8)
        have HM8 := Hid.of (HM7.out.up u8)
        clear u8
        rcases hr with ⟨rfl, hva, hob⟩ | ⟨rfl, rfl, hno⟩
        · have hcb := conv_sl hob.sl
          obtain ⟨sb, hsb⟩ : ∃ t, (⟨(fmA old ks (l.drop at')).toArray⟩ : ByteArray) = t := ⟨_, rfl⟩
          have HSB := Hid.of (show sb.data.toList = fmA old ks (l.drop at') by rw [← hsb])
          rw [show vs (fmA old ks (l.drop at')) = .string sb from congrArg Value.string hsb] at hcb
          have HVA := Hid.of hva
          clear hsb hob hva
          dsimp only
          by_cases heq : sb = s
          · subst heq
            have HE := Hid.of (show l = fmA old ks (l.drop at') from HSL.out.symm.trans HSB.out)
            go_wp2
            try simp only [Exit.inBlock, Exit.then]
            refine bodyPost_ret (results_tmp4 rfl _ _ _) rfl ?_
            exact ⟨_, _, _, _, rfl, HU8.out, .inl ⟨rfl, ks, l.drop at', HVA.out, HE.out, HH8.out, HM8.out⟩⟩
          · have HNO := Hid.of (show ¬ Ask l from fun ⟨o, hs, m, vv, e⟩ => by
              obtain ⟨e1, e2⟩ := HDONE.out o hs m vv e
              have e3 := HOLD.out o hs m vv e
              refine heq (ba_list7 ?_)
              rw [HSB.out, HSL.out, e1, e2, e3]
              exact e.symm)
            have heq2 : (sb.toList == s.toList) = false := bytes_ne heq
            go_wp2
            try simp only [Exit.inBlock, Exit.then]
            refine bodyPost_ret (results_tmp4 rfl _ _ _) rfl ?_
            exact RAR_no HU8.out HER.out.symm HNO.out
        · have HNO := Hid.of (show ¬ Ask l from fun ⟨o, hs, m, vv, e⟩ => by
            obtain ⟨e1, e2⟩ := HDONE.out o hs m vv e
            have e3 := HOLD.out o hs m vv e
            rw [e1, e2, e3] at hno
            exact hno vv)
          have hez : fmE old ks.length (l.drop at').length ≠ 0 := fmE_ne _ _ _
          generalize fmE old ks.length (l.drop at').length = er at *
          clear hno
          dsimp only
          go_wp2
          try simp only [Exit.inBlock, Exit.then]
          refine bodyPost_ret (results_tmp4 rfl _ _ _) rfl ?_
          exact RAR_no HU8.out HER.out.symm HNO.out
end Go.Proofs.YtaobnnlcfefodaaGreatDoor
