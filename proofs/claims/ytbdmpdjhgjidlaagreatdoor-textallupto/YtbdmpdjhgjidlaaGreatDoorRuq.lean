import Derived.Test.YtbdmpdjhgjidlaaGreatDoorRq
import Derived.Test.YtbdmpdjhgjidlaaGreatDoorQn
namespace TextNum
/-- what the reference reads, from a place on -/
def rd : Nat → List UInt8 → Option (List UInt8)
  | 0, _ => some []
  | f + 1, d => if 1 < d.length then (if d.getD 0 0 = 92 ∧ 3 < d.length then (match hexB (d.getD 2 0) (d.getD 3 0) with
      | some x => (rd f (d.drop 4)).map (x :: ·)
      | none => none) else (rd f (d.drop 1)).map (d.getD 0 0 :: ·)) else some []
theorem rd_end {f : Nat} {d : List UInt8} (h : d.length ≤ 1) : rd f d = some [] := by
  cases f with
  | zero => rfl
  | succ f => simp only [rd]; rw [if_neg (by omega)]
theorem qs_cons (b : UInt8) (r : List UInt8) : qs (b :: r) = qb b ++ qs r := rfl
theorem rd_qs : ∀ (x : List UInt8) (f : Nat), (qs x ++ [34]).length ≤ f → rd f (qs x ++ [34]) = some x
  | [], f, _ => rd_end (by simp [qs])
  | b :: r, f, h => by
    rw [qs_cons] at h ⊢
    obtain ⟨f, rfl⟩ : ∃ g, f = g + 1 := ⟨f - 1, by simp at h; omega⟩
    cases hb : its b with
    | true =>
      have hq : qb b = [b] := by unfold qb; rw [hb]; rfl
      rw [hq] at h ⊢
      have h92 : b ≠ 92 := by
        rintro rfl
        exact absurd hb (by decide)
      simp only [List.cons_append, List.nil_append, List.length_cons, List.length_append, List.length_nil] at h
      simp only [rd]
      rw [if_pos (by simp), if_neg (by simp [h92])]
      simp only [List.cons_append, List.nil_append, List.drop_succ_cons, List.drop_zero, List.getD_cons_zero]
      rw [rd_qs r f (by simp; omega)]
      rfl
    | false =>
      have hq : qb b = [92, 120, dg (b.toNat / 16), dg (b.toNat % 16)] := by unfold qb; rw [hb]; rfl
      rw [hq] at h ⊢
      simp only [List.cons_append, List.nil_append, List.length_cons, List.length_append, List.length_nil] at h
      simp only [rd]
      rw [if_pos (by simp), if_pos (by simp)]
      simp only [List.cons_append, List.nil_append, List.drop_succ_cons, List.drop_zero, List.getD_cons_zero, List.getD_cons_succ, hexB_back]
      rw [rd_qs r f (by simp; omega)]
      rfl
theorem unq_rd (s : List UInt8) (f : Nat) (hf : s.length ≤ f) : unq s = match rd f (s.drop 1) with
    | some out => if quo out = s then some out else none
    | none => none := by
  cases hu : unq s with
  | some x =>
    have hs := quote_once s x hu
    have : rd f (s.drop 1) = some x := by
      rw [← hs]
      show rd f (qs x ++ [34]) = some x
      refine rd_qs x f ?_
      rw [← hs] at hf
      simp [quo] at hf ⊢
      omega
    rw [this]
    simp only
    rw [if_pos hs]
  | none =>
    cases hr : rd f (s.drop 1) with
    | none => rfl
    | some out =>
      simp only
      split
      · rename_i h
        rw [← h, quote_back] at hu; cases hu
      · rfl
end TextNum
namespace Go.Proofs.YtbdmpdjhgjidlaaGreatDoor
open Go.RowKit TextNum
theorem drop_getD (s : ByteArray) (i k : Nat) (h : i + k < s.size) : (s.data.toList.drop i).getD k 0 = s[i + k] := by
  have hl : i + k < s.data.toList.length := by rw [← Go.Lib.size_eq]; exact h
  rw [sget' s (i + k) h, List.getD_eq_getElem?_getD, List.getElem?_drop, List.getElem?_eq_getElem hl]; rfl
theorem quoR_of (l : List UInt8) (h : ¬ 1048576 < l.length) : quoR l = match unq l with
  | some x => (x, 0)
  | none => ([], 66) := by unfold quoR; rw [if_neg h]; rfl
set_option maxRecDepth 100000 in
set_option maxHeartbeats 2000000 in
theorem RUnquote_walk (s : ByteArray) (w : World) :
    Calls Tryz.prog 34 #[.string s] w fun e w' => ∃ v, e = .returned (.tuple #[v, .int .i64 (quoR s.data.toList).2]) ∧ Own w' w.heap.size v (quoR s.data.toList).1 ∧ Up w w' := by
  have HS := Hid.of (Go.Lib.size_eq s)
  go_enter Tryz.func34, Tryz.ntmps34
  by_cases h1 : 1048576 < s.size
  · have d1 : (1048576 : Int) < (s.size : Int) := by omega
    have HF := Hid.of (show quoR s.data.toList = ([], 2) by unfold quoR; rw [if_pos (by rw [← HS.out]; exact h1)])
    go_wp2
    go_ret2
    rw [HF.out]
    exact ⟨_, rfl, own_nil _ _, Up.refl _⟩
  · have d1 : ¬ (1048576 : Int) < (s.size : Int) := by omega
    have hle : s.size ≤ 1048576 := by omega
    have HN := Hid.of (quoR_of s.data.toList (by rw [← HS.out]; exact h1))
    have HU := Hid.of (unq_rd s.data.toList s.size (by rw [HS.out]; exact Nat.le_refl _))
    clear h1
    go_wp2
    go_loopw [4, 5] (fun v4 v5 wr => ∃ (i f : Nat) (out : List UInt8), v5 = .int .i64 (i : Int) ∧ 1 ≤ i ∧ i ≤ s.size + 3 ∧ Hid (Own wr w.heap.size v4 out ∧ Up w wr ∧ out.length ≤ i ∧ s.size ≤ i + f ∧ rd s.size (s.data.toList.drop 1) = (rd f (s.data.toList.drop i)).map (out ++ ·))) (fun _ v5 _ => s.size + 4 - (intOf v5).toNat)
    case atStart => exact ⟨1, s.size, [], rfl, by omega, by omega, own_nil _ _, Up.refl _, Nat.zero_le _, by omega, by cases rd s.size (s.data.toList.drop 1) <;> simp⟩
    case round =>
      obtain ⟨i, f, out, rfl, hi1, hi, hI⟩ := hrel
      by_cases hlt : i + 1 < s.size
      · have hlt' : (i : Int) < (s.size : Int) - 1 := by omega
        have hl0 : i < s.size := by omega
        obtain ⟨f', hf'⟩ : ∃ f', f = f' + 1 := ⟨f - 1, by have := hI.out.2.2.2.1; omega⟩
        have hst := hI.out.2.2.2.2
        rw [hf'] at hst
        simp only [rd] at hst
        have hdl : (s.data.toList.drop i).length = s.size - i := by rw [List.length_drop, ← HS.out]
        rw [if_pos (by rw [hdl]; omega), hdl, List.drop_drop, List.drop_drop, drop_getD s i 0 (by omega)] at hst
        have HST := Hid.of hst
        have hff := hI.out.2.2.2.1
        have HFF := Hid.of (show s.size ≤ i + 1 + f' by omega)
        clear hst hf' hdl hff
        by_cases hc : s[i].toNat = 92
        · have c1 : ((s[i].toNat : Int) == 92) = true := by simp; omega
          have hc' : s[i] = 92 := UInt8.toNat_inj.1 hc
          by_cases h3 : i + 3 < s.size
          · have c2 : (i : Int) + 3 < (s.size : Int) := by omega
            have hh : s[i + 0] = 92 ∧ 3 < s.size - i := ⟨hc', by omega⟩
            have HS2 := Hid.of (by have := HST.out; rw [if_pos hh, drop_getD s i 2 (by omega), drop_getD s i 3 h3] at this; exact this)
            have h2 : i + 2 < s.size := by omega
            clear hc hc' hh
            go_wp2_with fail
            refine (place_walk ⟨#[48, 49, 50, 51, 52, 53, 54, 55, 56, 57, 97, 98, 99, 100, 101, 102]⟩ s[i + 2] (by decide) wr).mono ?_
            rintro e w2 ⟨rfl, hw⟩
            obtain rfl := hw.symm
            rw [show (⟨#[48, 49, 50, 51, 52, 53, 54, 55, 56, 57, 97, 98, 99, 100, 101, 102]⟩ : ByteArray).data.toList = DT from rfl]
            dsimp only
            go_wp2_with fail
            refine (place_walk ⟨#[48, 49, 50, 51, 52, 53, 54, 55, 56, 57, 97, 98, 99, 100, 101, 102]⟩ s[i + 3] (by decide) wr).mono ?_
            rintro e w2 ⟨rfl, hw⟩
            obtain rfl := hw.symm
            rw [show (⟨#[48, 49, 50, 51, 52, 53, 54, 55, 56, 57, 97, 98, 99, 100, 101, 102]⟩ : ByteArray).data.toList = DT from rfl]
            dsimp only
            cases hp : pl DT s[i + 2] with
            | none =>
              have HF := Hid.of (show quoR s.data.toList = ([], 66) by rw [HN.out, HU.out, HS2.out, show hexB s[i + 2] s[i + 3] = none by unfold hexB; rw [hp]]; rfl)
              rw [plI_no hp]
              generalize plI DT s[i + 3] = k2
              clear hp
              go_wp2
              go_ret2
              rw [HF.out]
              exact ⟨_, rfl, own_nil _ _, hI.out.2.1⟩
            | some x =>
              have hx := (pl_dg hp).2
              rw [plI_hv hp]
              have e1 : decide ((x : Int) < 0) = false := by simp
              cases hp2 : pl DT s[i + 3] with
              | none =>
                have HF := Hid.of (show quoR s.data.toList = ([], 66) by rw [HN.out, HU.out, HS2.out, show hexB s[i + 2] s[i + 3] = none by unfold hexB; rw [hp, hp2]]; rfl)
                rw [plI_no hp2]
                clear hp hp2
                go_wp2
                go_ret2
                rw [HF.out]
                exact ⟨_, rfl, own_nil _ _, hI.out.2.1⟩
              | some y =>
                have hy := (pl_dg hp2).2
                rw [plI_hv hp2]
                have e2 : decide ((y : Int) < 0) = false := by simp
                obtain ⟨z, hz⟩ : ∃ z : UInt8, z = UInt8.ofNat (16 * x + y) := ⟨_, rfl⟩
                have hzn : 16 * (x : Int) + (y : Int) = (z.toNat : Int) := by rw [hz, ofNat_toNat (by omega)]; omega
                have hzl : z.toNat < 256 := z.toNat_lt
                have HF := Hid.of (show rd s.size (s.data.toList.drop 1) = (rd f' (s.data.toList.drop (i + 4))).map (out ++ [z] ++ ·) by
                  rw [HS2.out, show hexB s[i + 2] s[i + 3] = some z by unfold hexB; rw [hp, hp2, hz]]
                  cases rd f' (s.data.toList.drop (i + 4)) <;> simp)
                clear hp hp2 hz
                go_wp2_with (with_reducible show wpList _ _ _ ({ dst := _, op := Op.call { callee := Callee.builtin Builtin.append, args := _, argTypes := _ }, type := _, pos := _, after := _, guard := _ } :: _) _ _; refine Shut.out ?_)
                show wpList _ _ _ _ _ _
                refine wpList_app1 rfl _ _ rfl w.heap.size _ out [z] rfl (by exact hI.out.1) 1 rfl (by have := hI.out.2.2.1; simp; omega) hI.out.2.1.size ?_
                intro v' w3 h3 b3
                have H3 := Hid.of (And.intro h3 (hI.out.2.1.step (Nat.le_refl _) b3))
                clear h3 b3
                simp only [Act.put, List.setIfInBounds_toArray, List.set_cons_zero, List.set_cons_succ]
                go_wp2
                go_roundw
                case rel => exact ⟨i + 4, f', out ++ [z], by go_num, by omega, by omega, H3.out.1, H3.out.2, by have := hI.out.2.2.1; simp; omega, by have := HFF.out; omega, HF.out⟩
                case measure => simp [intOf]; omega
          · have c2 : ¬ (i : Int) + 3 < (s.size : Int) := by omega
            have c2' : decide ((i : Int) + 3 < (s.size : Int)) = false := by simp; omega
            have HF := Hid.of (show rd s.size (s.data.toList.drop 1) = (rd f' (s.data.toList.drop (i + 1))).map (out ++ [s[i]] ++ ·) by
              have := HST.out; rw [if_neg (fun h => by omega)] at this; rw [this]
              cases rd f' (s.data.toList.drop (i + 1)) <;> simp)
            clear hc hc'
            go_wp2_with (with_reducible show wpList _ _ _ ({ dst := _, op := Op.call { callee := Callee.builtin Builtin.append, args := _, argTypes := _ }, type := _, pos := _, after := _, guard := _ } :: _) _ _; refine Shut.out ?_)
            show wpList _ _ _ _ _ _
            refine wpList_app1 rfl _ _ rfl w.heap.size _ out [s[i]] rfl (by exact hI.out.1) 1 rfl (by have := hI.out.2.2.1; simp; omega) hI.out.2.1.size ?_
            intro v' w3 h3 b3
            have H3 := Hid.of (And.intro h3 (hI.out.2.1.step (Nat.le_refl _) b3))
            clear h3 b3
            simp only [Act.put, List.setIfInBounds_toArray, List.set_cons_zero, List.set_cons_succ]
            go_wp2
            go_roundw
            case rel => exact ⟨i + 1, f', out ++ [s[i]], by go_num, by omega, by omega, H3.out.1, H3.out.2, by have := hI.out.2.2.1; simp; omega, HFF.out, HF.out⟩
            case measure => simp [intOf]; omega
        · have c1 : ((s[i].toNat : Int) == 92) = false := by simp; omega
          have HF := Hid.of (show rd s.size (s.data.toList.drop 1) = (rd f' (s.data.toList.drop (i + 1))).map (out ++ [s[i]] ++ ·) by
            have := HST.out; rw [if_neg (fun h => hc (by have := h.1; rw [show s[i] = 92 from this]; rfl))] at this; rw [this]
            cases rd f' (s.data.toList.drop (i + 1)) <;> simp)
          clear hc
          go_wp2_with (with_reducible show wpList _ _ _ ({ dst := _, op := Op.call { callee := Callee.builtin Builtin.append, args := _, argTypes := _ }, type := _, pos := _, after := _, guard := _ } :: _) _ _; refine Shut.out ?_)
          show wpList _ _ _ _ _ _
          refine wpList_app1 rfl _ _ rfl w.heap.size _ out [s[i]] rfl (by exact hI.out.1) 1 rfl (by have := hI.out.2.2.1; simp; omega) hI.out.2.1.size ?_
          intro v' w3 h3 b3
          have H3 := Hid.of (And.intro h3 (hI.out.2.1.step (Nat.le_refl _) b3))
          clear h3 b3
          simp only [Act.put, List.setIfInBounds_toArray, List.set_cons_zero, List.set_cons_succ]
          go_wp2
          go_roundw
          case rel => exact ⟨i + 1, f', out ++ [s[i]], by go_num, by omega, by omega, H3.out.1, H3.out.2, by have := hI.out.2.2.1; simp; omega, HFF.out, HF.out⟩
          case measure => simp [intOf]; omega
      · have hlt' : ¬ (i : Int) < (s.size : Int) - 1 := by omega
        have hr : rd s.size (s.data.toList.drop 1) = some out := by rw [hI.out.2.2.2.2, rd_end (by rw [List.length_drop, ← HS.out]; omega)]; simp
        have hq := HU.out
        rw [hr] at hq
        have HQ := Hid.of hq
        clear hr hq
        obtain ⟨a4, c4, ev⟩ := hI.out.1.len
        subst ev
        go_wp2_with fail
        refine (RQuote_walk _ out _ (by exact hI.out.1.sl) (by have := hI.out.2.2.1; omega)).mono ?_
        rintro e w2 ⟨rfl, u2⟩
        have H2 := Hid.of (And.intro (hI.out.1.below u2) (hI.out.2.1.trans u2))
        clear u2
        by_cases he : quo out = s.data.toList
        · have HF := Hid.of (show quoR s.data.toList = (out, 0) by rw [HN.out, HQ.out, if_pos he])
          rw [show vs (quo out) = .string s by rw [he]]
          clear he
          dsimp only
          go_wp2
          go_ret2
          rw [HF.out]
          exact ⟨_, rfl, H2.out.1, H2.out.2⟩
        · have HF := Hid.of (show quoR s.data.toList = ([], 66) by rw [HN.out, HQ.out, if_neg he])
          have hne : ((⟨(quo out).toArray⟩ : ByteArray).toList == s.toList) = false := by
            rw [Go.Lib.toList_data, Go.Lib.toList_data]
            simpa using he
          rw [show vs (quo out) = .string ⟨(quo out).toArray⟩ from rfl]
          generalize (⟨(quo out).toArray⟩ : ByteArray) = qq at *
          clear he
          dsimp only
          go_wp2
          go_ret2
          rw [HF.out]
          exact ⟨_, rfl, own_nil _ _, H2.out.2⟩
end Go.Proofs.YtbdmpdjhgjidlaaGreatDoor
