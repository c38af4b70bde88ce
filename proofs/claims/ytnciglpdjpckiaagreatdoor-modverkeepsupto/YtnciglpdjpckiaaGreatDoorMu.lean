import Derived.Test.YtnciglpdjpckiaaGreatDoorMt
import Derived.Laws.Cover1
namespace Go.Proofs.YtnciglpdjpckiaaGreatDoor
open Go.RowKit Go.Shelf TextNum ModNum
theorem ba_app (a b : ByteArray) : a ++ b = ⟨(a.data.toList ++ b.data.toList).toArray⟩ := by
  apply ByteArray.ext
  simp [ByteArray.data_append]
theorem ba_data (l : List UInt8) : (⟨l.toArray⟩ : ByteArray).data.toList = l := rfl
theorem maj_len {p m : List UInt8} (h : maj p = some m) : p.length ≤ 255 ∧ al 127 p = true := by
  unfold maj at h
  split at h
  · cases h
  · rename_i hh
    refine ⟨by have := fun h => hh (.inl h); omega, ?_⟩
    cases ha : al 127 p with
    | true => rfl
    | false => exact absurd (.inr ha) hh
theorem ver_len {l : List UInt8} {q : Prt} (h : ver l = some q) : l.length ≤ 128 ∧ l.head? = some 118 := by
  unfold ver at h
  split at h
  · cases h
  · rename_i hh
    refine ⟨by have := fun h => hh (.inr h); omega, ?_⟩
    by_cases h2 : l.head? = some 118
    · exact h2
    · exact absurd (.inl h2) hh
theorem fte_ok {p l : List UInt8} (h : fte p l = 0) : ∃ m q, maj p = some m ∧ ver l = some q ∧ fit q m = true := by
  unfold fte at h
  cases hm : maj p with
  | none => rw [hm] at h; cases h
  | some m =>
    rw [hm] at h
    cases hv : ver l with
    | none => rw [hv] at h; cases h
    | some q =>
      rw [hv] at h
      refine ⟨m, q, rfl, rfl, ?_⟩
      cases hf : fit q m with
      | true => rfl
      | false =>
        have h2 : (if fit q m = true then (0 : Int) else 111) = 0 := h
        rw [hf] at h2
        cases h2
theorem fte_no {p l : List UInt8} (h : fte p l ≠ 0) : fte p l = 110 ∨ fte p l = 111 := by
  unfold fte at h ⊢
  cases hm : maj p with
  | none => exact .inl rfl
  | some m =>
    cases hv : ver l with
    | none => exact .inr rfl
    | some q =>
      simp only [hm, hv] at h ⊢
      split
      · rename_i hf; rw [if_pos hf] at h; exact absurd rfl h
      · exact .inr rfl
theorem cmpB_val : ∀ (a b : List UInt8), cmpB a b = -1 ∨ cmpB a b = 0 ∨ cmpB a b = 1
  | [], [] => .inr (.inl rfl)
  | [], _ :: _ => .inl rfl
  | _ :: _, [] => .inr (.inr rfl)
  | a :: l, b :: m => by
    unfold cmpB
    split
    · exact .inl rfl
    · split
      · exact .inr (.inr rfl)
      · exact cmpB_val l m
theorem cmpB_eq : ∀ {a b : List UInt8}, cmpB a b = 0 ↔ a = b
  | [], [] => by simp [cmpB]
  | [], _ :: _ => by simp [cmpB]
  | _ :: _, [] => by simp [cmpB]
  | a :: l, b :: m => by
    unfold cmpB
    split
    · rename_i h
      constructor
      · intro h2; cases h2
      · intro h2; injection h2 with h3; subst h3; omega
    · split
      · rename_i h
        constructor
        · intro h2; cases h2
        · intro h2; injection h2 with h3; subst h3; omega
      · rw [cmpB_eq]
        constructor
        · rintro rfl
          have : a = b := UInt8.toNat_inj.1 (by omega)
          rw [this]
        · intro h2; injection h2
theorem less_cmp : ∀ (a b : List UInt8), Op.bytesLess a b = decide (cmpB a b = -1)
  | [], [] => rfl
  | [], _ :: _ => rfl
  | _ :: _, [] => rfl
  | a :: l, b :: m => by
    unfold Op.bytesLess cmpB
    rw [less_cmp l m]
    by_cases h1 : a.toNat < b.toNat
    · have : a < b := UInt8.lt_iff_toNat_lt.2 h1
      simp [h1, this]
    · have hn : ¬ a < b := fun h => h1 (UInt8.lt_iff_toNat_lt.1 h)
      rw [if_neg h1]
      by_cases h2 : b.toNat < a.toNat
      · have hne : ¬ a = b := by rintro rfl; omega
        rw [if_pos h2]
        simp [hn, hne]
      · have he : a = b := UInt8.toNat_inj.1 (by omega)
        subst he
        rw [if_neg h2]
        simp
/-- a key's text -/
def keyT (p s : List UInt8) : List UInt8 := if fte p s = 0 then p ++ 64 :: s else []
set_option maxRecDepth 100000 in
theorem Key_walk (p s : ByteArray) (w : World) (hG : GR w) : Calls Tryz.prog 23 #[.string p, .string s] w fun e w' => e = .returned (.tuple #[.string ⟨(keyT p.data.toList s.data.toList).toArray⟩, .int .i64 (fte p.data.toList s.data.toList)]) ∧ Up w w' := by
  have HF := Hid.of (partsFor_walk p s w hG)
  clear hG
  go_enter Tryz.func23, Tryz.ntmps23
  go_wp2_with fail
  refine HF.out.mono ?_
  rintro e w1 ⟨n0, n1, n2, v, ws, inc, rfl, hS, _, _, u1⟩
  have H1 := Hid.of u1
  obtain ⟨a, c, rfl⟩ := hS.len
  generalize ws.length = wn at *
  clear hS u1 HF
  by_cases h0 : fte p.data.toList s.data.toList = 0
  · have HK : Hid (keyT p.data.toList s.data.toList = p.data.toList ++ 64 :: s.data.toList) := if_pos h0
    have H0 := Hid.of (And.intro h0 trivial)
    have k1 : ¬ 9223372036854775807 < p.size + 1 := by
      obtain ⟨m, q, h1, _, _⟩ := fte_ok h0
      have := (maj_len h1).1
      rw [len_of] at this
      omega
    have k2 : ¬ 9223372036854775807 < p.size + 1 + s.size := by
      obtain ⟨m, q, h1, h2, _⟩ := fte_ok h0
      have := (maj_len h1).1
      have := (ver_len h2).1
      rw [len_of] at *
      omega
    rw [h0]
    clear h0
    dsimp only
    go_wp2
    go_ret2
    rw [HK.out, H0.out.1]
    refine ⟨?_, H1.out.alloc _⟩
    simp only [ba_app]
    simp
  · have HK : Hid (keyT p.data.toList s.data.toList = []) := if_neg h0
    have h0z : (fte p.data.toList s.data.toList != 0) = true := by rw [bne_iff_ne]; exact h0
    generalize hfe : fte p.data.toList s.data.toList = fe at *
    have HFE := Hid.of (And.intro hfe trivial)
    clear h0 hfe
    dsimp only
    go_wp2
    go_ret2
    rw [HK.out, HFE.out.1]
    exact ⟨rfl, H1.out.alloc _⟩
set_option maxRecDepth 100000 in
theorem orderI_walk (a b : Nat) (w : World) : Calls Tryz.prog 91 #[.int .i64 (a : Int), .int .i64 (b : Int)] w fun e w' => e = .returned (.int .i64 (cmpN a b)) ∧ w' = w := by
  unfold cmpN
  by_cases h1 : a < b
  · have h1z : (a : Int) < (b : Int) := by omega
    rw [if_pos h1]
    clear h1
    go_enter Tryz.func91, Tryz.ntmps91
    go_wp2
    go_ret
    exact ⟨rfl, rfl⟩
  · have h1z : ¬ (a : Int) < (b : Int) := by omega
    rw [if_neg h1]
    by_cases h2 : b < a
    · have h2z : (b : Int) < (a : Int) := by omega
      rw [if_pos h2]
      clear h1 h2
      go_enter Tryz.func91, Tryz.ntmps91
      go_wp2
      go_ret
      exact ⟨rfl, rfl⟩
    · have h2z : ¬ (b : Int) < (a : Int) := by omega
      rw [if_neg h2]
      clear h1 h2
      go_enter Tryz.func91, Tryz.ntmps91
      go_wp2
      go_ret
      exact ⟨rfl, rfl⟩
set_option maxRecDepth 100000 in
theorem orderS_walk (a b : ByteArray) (w : World) : Calls Tryz.prog 48 #[.string a, .string b] w fun e w' => e = .returned (.int .i64 (cmpB a.data.toList b.data.toList)) ∧ w' = w := by
  have e1 := less_cmp a.data.toList b.data.toList
  have e2 : (a.toList == b.toList) = decide (cmpB a.data.toList b.data.toList = 0) := by
    rw [Go.Lib.toList_data, Go.Lib.toList_data, Bool.eq_iff_iff]
    simp [cmpB_eq]
  rw [← Go.Lib.toList_data, ← Go.Lib.toList_data] at e1
  rcases cmpB_val a.data.toList b.data.toList with hc | hc | hc
  · rw [Go.Lib.toList_data, Go.Lib.toList_data, hc] at e1
    rw [← Go.Lib.toList_data, ← Go.Lib.toList_data] at e1
    rw [hc] at e2 ⊢
    have e3 : Op.bytesLess a.toList b.toList = true := e1
    clear e1 e2 hc
    go_enter Tryz.func48, Tryz.ntmps48
    go_wp2
    go_ret
    exact ⟨rfl, rfl⟩
  · rw [Go.Lib.toList_data, Go.Lib.toList_data, hc] at e1
    rw [← Go.Lib.toList_data, ← Go.Lib.toList_data] at e1
    rw [hc] at e2 ⊢
    have e3 : Op.bytesLess a.toList b.toList = false := e1
    have e4 : (a.toList == b.toList) = true := e2
    clear e1 e2 hc
    go_enter Tryz.func48, Tryz.ntmps48
    go_wp2
    go_ret
    exact ⟨rfl, rfl⟩
  · rw [Go.Lib.toList_data, Go.Lib.toList_data, hc] at e1
    rw [← Go.Lib.toList_data, ← Go.Lib.toList_data] at e1
    rw [hc] at e2 ⊢
    have e3 : Op.bytesLess a.toList b.toList = false := e1
    have e4 : (a.toList == b.toList) = false := e2
    clear e1 e2 hc
    go_enter Tryz.func48, Tryz.ntmps48
    go_wp2
    go_ret
    exact ⟨rfl, rfl⟩
end Go.Proofs.YtnciglpdjpckiaaGreatDoor
