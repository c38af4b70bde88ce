import Derived.Test.YtbdbpmeaiiodgaaDoorFa
import Derived.Test.YtbdbpmeaiiodgaaDoorOp
import Derived.Test.YtbdbpmeaiiodgaaDoorNm
namespace Go.Proofs.YtbdbpmeaiiodgaaDoor
open Go.RowKit TextNum
/-- a list of signatures that is read -/
def SgAt (w : World) (b o : Nat) (s : Sg) : Prop := ∃ a n c, w.cell? ⟨b, o, none⟩ = some (.string s.name) ∧ w.cell? ⟨b, o + 1, none⟩ = some (.int .u32 (s.hash : Int)) ∧ w.cell? ⟨b, o + 2, none⟩ = some (.slice a n c) ∧ n = s.bytes.length ∧ Sl w (.slice a n c) s.bytes
def SigL (w : World) (v : Value) (ss : List Sg) : Prop := ∃ a c, v = .slice a ss.length c ∧ ss.length ≤ c ∧ (ss = [] ∨ ∃ b off, a = some ⟨b, off, none⟩ ∧ b < w.heap.size ∧ ∀ i (h : i < ss.length), SgAt w b (off + i * 3) ss[i])
theorem SgAt.up {w w' : World} {b o : Nat} {s : Sg} (h : SgAt w b o s) (u : Up w w') : SgAt w' b o s := by
  obtain ⟨a, n, c, h1, h2, h3, h4, h5⟩ := h
  exact ⟨a, n, c, u.cell h1, u.cell h2, u.cell h3, h4, h5.up u⟩
theorem SigL.up {w w' : World} {v : Value} {ss : List Sg} (h : SigL w v ss) (u : Up w w') : SigL w' v ss := by
  obtain ⟨a, c, e, hc, h⟩ := h
  refine ⟨a, c, e, hc, ?_⟩
  rcases h with h | ⟨b, off, e2, hb, h⟩
  · exact .inl h
  · exact .inr ⟨b, off, e2, Nat.lt_of_lt_of_le hb u.size, fun i hi => (h i hi).up u⟩
theorem SigL.get {w : World} {v : Value} {ss : List Sg} (h : SigL w v ss) : ∃ a c, v = .slice a ss.length c ∧ ss.length ≤ c ∧ ∀ i (hi : i < ss.length), ∃ b off, a = some ⟨b, off, none⟩ ∧ SgAt w b (off + i * 3) ss[i] := by
  obtain ⟨a, c, e, hc, h⟩ := h
  refine ⟨a, c, e, hc, fun i hi => ?_⟩
  rcases h with rfl | ⟨b, off, e2, hb, h⟩
  · cases hi
  · exact ⟨b, off, e2, h i hi⟩
theorem sumL_take : ∀ (ss : List Sg) (i : Nat) (h : i < ss.length), sumL (ss.take (i + 1)) = sumL (ss.take i) + sgLen ss[i]
  | s :: r, 0, _ => by simp [sumL]
  | s :: r, i + 1, h => by
    have := sumL_take r i (by simpa using h)
    simp only [List.take_succ_cons, sumL, List.getElem_cons_succ]
    omega
def Bds (ss : List Sg) : Prop := ∀ s, s ∈ ss → s.name.size ≤ 140737488355328 ∧ s.bytes.length ≤ 140737488355328
theorem sgLen_bd {s : Sg} (h : s.name.size ≤ 140737488355328 ∧ s.bytes.length ≤ 140737488355328) : sgLen s ≤ 562949953421312 := by unfold sgLen; omega
theorem sumL_bd : ∀ (ss : List Sg), Bds ss → sumL ss ≤ ss.length * 562949953421312
  | [], _ => by simp [sumL]
  | s :: r, h => by
    have h1 := sumL_bd r (fun x hx => h x (by simp [hx]))
    have h2 := sgLen_bd (h s (by simp))
    simp only [sumL, List.length_cons]
    omega
theorem w64 {x : Int} (h : -9223372036854775808 ≤ x ∧ x < 9223372036854775808) : wrap64 x = x := by
  unfold wrap64
  omega
theorem nl_step (T S n b : Nat) (hT : T ≤ 140737488355328) (hS : S ≤ 9007199254740992) (hn : n ≤ 140737488355328) (hb : b ≤ 140737488355328) :
    wrap64 ((T : Int) + 1 + (S : Int) + wrap64 (wrap64 (wrap64 (wrap64 (4 + (n : Int)) + 1) + wrap64 (wrap64 ((wrap64 (wrap64 (4 + (b : Int)) + 2)).tdiv 3) * 4)) + 1)) = ((T + 1 + (S + (4 + n + 1 + (4 + b + 2) / 3 * 4 + 1)) : Nat) : Int) := by
  have e : (4 + (b : Int) + 2).tdiv 3 = (((4 + b + 2) / 3 : Nat) : Int) := by
    rw [show (4 + (b : Int) + 2) = ((4 + b + 2 : Nat) : Int) by omega]; rfl
  rw [w64 (x := 4 + (n : Int)) (by omega), w64 (x := 4 + (n : Int) + 1) (by omega), w64 (x := 4 + (b : Int)) (by omega), w64 (x := 4 + (b : Int) + 2) (by omega), e]
  rw [w64 (x := (((4 + b + 2) / 3 : Nat) : Int)) (by omega), w64 (x := (((4 + b + 2) / 3 : Nat) : Int) * 4) (by omega)]
  rw [w64 (x := 4 + (n : Int) + 1 + (((4 + b + 2) / 3 : Nat) : Int) * 4) (by omega), w64 (x := 4 + (n : Int) + 1 + (((4 + b + 2) / 3 : Nat) : Int) * 4 + 1) (by omega), w64 (by omega)]
  omega
set_option maxRecDepth 100000 in
set_option maxHeartbeats 1000000 in
theorem noteLength_walk (t : ByteArray) (ht : t.size ≤ 140737488355328) (v : Value) (ss : List Sg) (w : World) (hS : SigL w v ss) (h16 : ss.length ≤ 16) (hb : Bds ss) :
    Calls Tryd.prog 56 #[.string t, v] w fun e w' => e = .returned (.int .i64 (nlen t ss : Int)) ∧ Up w w' := by
  obtain ⟨a, c, rfl, hc, hg⟩ := hS.get
  have HG := Hid.of hg
  have HB := Hid.of hb
  clear hS hg hb
  have f0 : IntKind.i64.wrap ((t.size : Int) + 1) = ((t.size + 1 : Nat) : Int) := by
    simp only [IntKind.wrap, IntKind.signed, IntKind.bits]; simp; omega
  go_enter Tryd.func56, Tryd.ntmps56
  go_wp2
  go_loopw [5, 14] (fun v5 v14 wr => ∃ i : Nat, v14 = .int .i64 (i : Int) ∧ v5 = .int .i64 ((t.size + 1 + sumL (ss.take i) : Nat) : Int) ∧ i ≤ ss.length ∧ Hid (Up w wr)) (fun _ v14 _ => ss.length - (intOf v14).toNat)
  case atStart => exact ⟨0, rfl, by simp [sumL], by omega, Up.refl _⟩
  case round =>
    obtain ⟨i, rfl, rfl, hi, hI⟩ := hrel
    by_cases hlt : i < ss.length
    · have hlt' : (i : Int) < (ss.length : Int) := by omega
      obtain ⟨b, off, rfl, a2, n2, c2, k1, k2, k3, k4, _⟩ := HG.out i hlt
      have k1' := hI.out.cell k1
      have k2' := hI.out.cell k2
      have k3' := hI.out.cell k3
      clear k1 k2 k3

      go_wp2
      refine ⟨⟨i + 1, by go_num, ?_, by omega, hI.out.alloc _⟩, by simp [intOf]; omega⟩
      have hm := HB.out ss[i] (List.getElem_mem hlt)
      have hs := sumL_bd (ss.take i) (fun x hx => HB.out x (List.mem_of_mem_take hx))
      rw [List.length_take] at hs
      rw [nl_step t.size (sumL (ss.take i)) ss[i].name.size ss[i].bytes.length ht (by omega) hm.1 hm.2, sumL_take ss i hlt]
      rfl
    · have hlt' : ¬ (i : Int) < (ss.length : Int) := by omega
      obtain rfl : i = ss.length := by omega
      go_wp2
      go_ret
      exact ⟨congrArg (fun z => Ending.returned (Value.int .i64 z)) (show (t.size : Int) + 1 + (sumL ss : Int) = (nlen t ss : Int) by unfold nlen; omega), hI.out⟩
theorem suf_ten7 (l : List UInt8) : Go.Lib.hasSuffix l [10] = decide (l.getLast? = some 10) := by
  unfold Go.Lib.hasSuffix
  rcases List.eq_nil_or_concat l with rfl | ⟨r, x, rfl⟩
  · rfl
  · by_cases h : x = 10
    · subst h; simp [List.isSuffixOf]
    · have : ¬ (10 : UInt8) = x := fun e => h e.symm
      simp [List.isSuffixOf, h, List.isPrefixOf, this]
open Classical in
set_option maxRecDepth 100000 in
theorem isNoteText_walk (t : ByteArray) (ht : t.size ≤ 140737488355328) (w : World) : Calls Tryd.prog 57 #[.string t] w fun e w' => e = .returned (.bool (decide (okT t))) ∧ Up w w' := by
  go_enter Tryd.func57, Tryd.ntmps57
  go_wp2_with fail
  refine (Any.strings_HasSuffix Tryd.lays100 t ⟨#[10]⟩ w (by omega)).mono ?_
  rintro e w' ⟨rfl, hw⟩
  obtain rfl := hw.symm
  rw [show (⟨#[10]⟩ : ByteArray).data.toList = [10] from rfl, suf_ten7]
  by_cases h : t.data.toList.getLast? = some 10
  · rw [decide_eq_true h]
    dsimp only
    go_wp2_with fail
    refine (Plain_walk t _).mono ?_
    rintro e w' ⟨rfl, u⟩
    by_cases hp : plainR t = 0
    · rw [hp]
      have HU := Hid.of u
      clear u
      dsimp only
      go_wp2
      go_ret
      exact ⟨by simp [okT, h, hp], HU.out⟩
    · have hp' : (plainR t == 0) = false := by simpa using hp
      have HU := Hid.of u
      clear u
      dsimp only
      go_wp2
      go_ret
      exact ⟨by simp [okT, hp], HU.out⟩
  · rw [decide_eq_false h]
    dsimp only
    go_wp2
    go_ret
    exact ⟨by rw [decide_eq_false (fun hk : okT t => h hk.1)]; rfl, Up.refl _⟩
/-- a signature as a value -/
def sgV (s : Sg) (a : Option Addr) (c : Nat) : Value := .agg #[.string s.name, .int .u32 (s.hash : Int), .slice a s.bytes.length c]
open Classical in
set_option maxRecDepth 100000 in
theorem illFormed_walk (s : Sg) (a : Option Addr) (c : Nat) (w : World) (hW : Go.Lib.WhiteTab 3 w) : Calls Tryd.prog 59 #[.agg #[.string s.name, .int .u32 (s.hash : Int), .slice a s.bytes.length c]] w fun e w' => e = .returned (.bool (decide (¬ okS s))) ∧ Up w w' := by
  have HW := Hid.of hW
  clear hW
  go_enter Tryd.func59, Tryd.ntmps59
  go_wp2_with fail
  refine (CheckName_walk s.name _ (WhiteTab_up HW.out ((Up.refl w).alloc _))).mono ?_
  rintro e w' ⟨rfl, u⟩
  have k3 : w'.cell? ⟨w.heap.size, 2, none⟩ = some (.slice a s.bytes.length c) := u.cell (by rw [World.cell?_alloc_at _ _ _ _ rfl]; rfl)
  have HU := Hid.of (((Up.refl w).alloc _).trans u)
  clear u
  rcases name_val s.name with hn | hn
  · rw [hn]
    by_cases hb : s.bytes.length = 0
    · have hb' : ((s.bytes.length : Int) == 0) = true := by simpa using hb
      dsimp only
      go_wp2
      go_ret
      exact ⟨by simp [okS, hn, List.length_eq_zero_iff.1 hb], HU.out⟩
    · have hb' : ((s.bytes.length : Int) == 0) = false := by simpa using hb
      dsimp only
      go_wp2
      go_ret
      exact ⟨by simp [okS, hn]; intro e; rw [e] at hb; exact hb rfl, HU.out⟩
  · rw [hn]
    dsimp only
    go_wp2
    go_ret
    exact ⟨by simp [okS, hn], HU.out⟩
def AllOk (ss : List Sg) : Prop := ∀ s, s ∈ ss → okS s
open Classical in
set_option maxRecDepth 100000 in
set_option maxHeartbeats 1000000 in
theorem IndexFunc_walk (v : Value) (ss : List Sg) (w : World) (hS : SigL w v ss) (hl : ss.length ≤ 16) (hW : Go.Lib.WhiteTab 3 w) :
    Calls Tryd.prog 82 #[v, .func (.func 59) #[] #[]] w fun e w' => ∃ k : Int, e = .returned (.int .i64 k) ∧ (0 ≤ k ↔ ¬ AllOk ss) ∧ Up w w' := by
  obtain ⟨a, c, rfl, hc, hg⟩ := hS.get
  have HG := Hid.of hg
  have HW := Hid.of hW
  clear hS hg hW
  go_enter Tryd.func82, Tryd.ntmps82
  go_wp2
  go_loopw [8] (fun v8 wr => ∃ i : Nat, v8 = .int .i64 (i : Int) ∧ i ≤ ss.length ∧ Hid (Up w wr ∧ ∀ s, s ∈ ss.take i → okS s)) (fun v8 _ => ss.length - (intOf v8).toNat)
  case atStart => exact ⟨0, rfl, by omega, Up.refl _, by simp⟩
  case round =>
    obtain ⟨i, rfl, hi, hI⟩ := hrel
    by_cases hlt : i < ss.length
    · have hlt' : (i : Int) < (ss.length : Int) := by omega
      obtain ⟨b, off, rfl, a2, n2, c2, k1, k2, k3, rfl, _⟩ := HG.out i hlt
      have k1' := hI.out.1.cell k1
      have k2' := hI.out.1.cell k2
      have k3' := hI.out.1.cell k3
      clear k1 k2 k3
      go_wp2_with fail
      refine (illFormed_walk ss[i] a2 c2 wr (WhiteTab_up HW.out hI.out.1)).mono ?_
      rintro e w2 ⟨rfl, u⟩
      by_cases hk : okS ss[i]
      · rw [decide_eq_false (fun h => h hk)]
        have HN := Hid.of (show Up w w2 ∧ ∀ s, s ∈ ss.take (i + 1) → okS s from ⟨hI.out.1.trans u, fun s hs => by
          rw [List.take_succ_eq_append_getElem hlt, List.mem_append, List.mem_singleton] at hs
          rcases hs with hs | rfl
          · exact hI.out.2 s hs
          · exact hk⟩)
        clear k1' k2' k3' u
        dsimp only
        go_wp2
        go_roundw
        case rel => exact ⟨i + 1, by go_num, by omega, HN⟩
        case measure => simp [intOf]; omega
      · rw [decide_eq_true hk]
        have HN := Hid.of (show Up w w2 ∧ ¬ AllOk ss from ⟨hI.out.1.trans u, fun h => hk (h _ (List.getElem_mem hlt))⟩)
        clear k1' k2' k3' u
        dsimp only
        go_wp2
        go_ret
        exact ⟨_, rfl, ⟨fun _ => HN.out.2, fun _ => by omega⟩, HN.out.1⟩
    · have hlt' : ¬ (i : Int) < (ss.length : Int) := by omega
      obtain rfl : i = ss.length := by omega
      go_wp2
      go_ret
      have ha := hI.out.2
      rw [List.take_length] at ha
      exact ⟨_, rfl, ⟨fun h => absurd h (by decide), fun h => absurd ha h⟩, hI.out.1⟩
open Classical in
set_option maxRecDepth 100000 in
theorem ContainsFunc_walk (v : Value) (ss : List Sg) (w : World) (hS : SigL w v ss) (hl : ss.length ≤ 16) (hW : Go.Lib.WhiteTab 3 w) :
    Calls Tryd.prog 58 #[v, .func (.func 59) #[] #[]] w fun e w' => e = .returned (.bool (decide (¬ AllOk ss))) ∧ Up w w' := by
  obtain ⟨a, c, rfl, hc, hg⟩ := hS.get
  clear hg
  have HS := Hid.of hS
  have HW := Hid.of hW
  clear hS hW
  go_enter Tryd.func58, Tryd.ntmps58
  go_wp2_with fail
  refine (IndexFunc_walk _ ss w HS.out hl HW.out).mono ?_
  rintro e w2 ⟨k, rfl, hk, u⟩
  have HU := Hid.of u
  clear u
  have HK := Hid.of (show decide (¬ AllOk ss) = decide (0 ≤ k) from by rw [decide_eq_decide]; exact hk.symm)
  clear hk
  dsimp only
  go_wp2
  go_ret
  exact ⟨by rw [HK.out]; rfl, HU.out⟩
set_option maxRecDepth 100000 in
theorem hashBytes_walk (h : Nat) (hh : h < 4294967296) (w : World) : Calls Tryd.prog 83 #[.int .u32 (h : Int)] w fun e w' => ∃ v, e = .returned v ∧ Own w' w.heap.size v (hb4 h) ∧ Up w w' := by
  go_enter Tryd.func83, Tryd.ntmps83
  go_wp2
  go_ret
  refine ⟨_, rfl, ?_, (Up.refl w).alloc _⟩
  have e : #[Value.int IntKind.u8 ((h : Int) / 16777216), Value.int IntKind.u8 ((h : Int) / 65536 % 256), Value.int IntKind.u8 ((h : Int) / 256 % 256), Value.int IntKind.u8 ((h : Int) % 256)] = (cb (hb4 h)).toArray := by
    have e1 : (h : Int) / 16777216 = ((UInt8.ofNat (h / 16777216)).toNat : Int) := by rw [UInt8.toNat_ofNat']; omega
    have e2 : (h : Int) / 65536 % 256 = ((UInt8.ofNat (h / 65536)).toNat : Int) := by rw [UInt8.toNat_ofNat']; omega
    have e3 : (h : Int) / 256 % 256 = ((UInt8.ofNat (h / 256)).toNat : Int) := by rw [UInt8.toNat_ofNat']; omega
    have e4 : (h : Int) % 256 = ((UInt8.ofNat h).toNat : Int) := by rw [UInt8.toNat_ofNat']; omega
    rw [e1, e2, e3, e4]
    rfl
  rw [e]
  have := World.ownsRow_lit (base := w.heap.size) (e := 5) (size := 1) w (cb (hb4 h)).toArray 4 (Nat.le_refl _) (by unfold maxLen; omega) (by simp [cb, hb4])
  simpa [Own, hb4, cb] using this
end Go.Proofs.YtbdbpmeaiiodgaaDoor
