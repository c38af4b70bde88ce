import Derived.Test.YtbdmpdjhgjidlaaGreatDoorQf
namespace Go.Proofs.YtbdmpdjhgjidlaaGreatDoor
open Go.RowKit TextNum

def strLen : Value → Nat | .string r => r.size | _ => 0
theorem isEmpty_iff (r : ByteArray) : r.toList.isEmpty = decide (r.size = 0) := by
  rw [Go.Lib.toList_data, Go.Lib.size_eq]
  cases r.data.toList <;> simp
def quoR (l : List UInt8) : List UInt8 × Int := if 1048576 < l.length then ([], 2) else match unq l with
  | some x => (x, 0)
  | none => ([], 66)
theorem quoR_long {l : List UInt8} (h : 1048576 < l.length) : quoR l = ([], 2) := if_pos h
theorem quoR_some {l x : List UInt8} (h : ¬ 1048576 < l.length) (hx : unq l = some x) : quoR l = (x, 0) := by unfold quoR; rw [if_neg h, hx]
theorem quoR_none {l : List UInt8} (h : ¬ 1048576 < l.length) (hx : unq l = none) : quoR l = ([], 66) := by unfold quoR; rw [if_neg h, hx]
theorem last_of {s : ByteArray} (h : 0 < s.size) : s.data.toList.getLast? = some (s[s.size - 1]) := by
  have hl := Go.Lib.size_eq s
  have h1 : s.data.toList.length - 1 < s.data.toList.length := by omega
  rw [sget s (s.size - 1) (by omega), List.getLast?_eq_getElem?, List.getElem?_eq_getElem h1]
  congr 2
theorem unq_short {s : ByteArray} (h : s.size < 2) : unq s.data.toList = none := by
  unfold unq; rw [if_pos (.inl (by rw [← Go.Lib.size_eq]; exact h))]
theorem unq_head {s : ByteArray} (h : 0 < s.size) (h1 : s[0].toNat ≠ 34) : unq s.data.toList = none := by
  unfold unq
  rw [if_pos]
  refine .inr (.inl ?_)
  obtain ⟨r, e⟩ := head_of h
  rw [e]
  simp
  intro e2; rw [e2] at h1; simp at h1
theorem unq_last {s : ByteArray} (h : 0 < s.size) (h1 : s[s.size - 1].toNat ≠ 34) : unq s.data.toList = none := by
  unfold unq
  rw [if_pos]
  refine .inr (.inr ?_)
  rw [last_of h]
  simp
  intro e2; rw [e2] at h1; simp at h1
theorem unq_body {s : ByteArray} (h : 2 ≤ s.size) (h1 : s[0].toNat = 34) (h2 : s[s.size - 1].toNat = 34) : unq s.data.toList = uqs s.size (s.extract 1 (s.size - 1)).data.toList := by
  unfold unq
  rw [if_neg]
  · rw [Go.Lib.extract_data, ← Go.Lib.size_eq, List.dropLast_eq_take]
    congr 2
    have := Go.Lib.size_eq s
    simp
  · rw [last_of (by omega), ← Go.Lib.size_eq]
    obtain ⟨r, e⟩ := head_of (s := s) (by omega)
    rw [e]
    simp only [List.head?_cons, not_or, ne_eq, Decidable.not_not, Option.some.injEq]
    exact ⟨by omega, UInt8.toNat_inj.1 (by simpa using h1), UInt8.toNat_inj.1 (by simpa using h2)⟩

set_option maxRecDepth 100000 in
set_option maxHeartbeats 400000 in
theorem Unquote_walk (s : ByteArray) (w : World) (hT : TabD w) :
    Calls Tryz.prog 33 #[.string s] w fun e w' => ∃ v, e = .returned (.tuple #[v, .int .i64 (quoR s.data.toList).2]) ∧ Own w' w.heap.size v (quoR s.data.toList).1 ∧ Up w w' := by
  have HT := Hid.of hT
  clear hT
  have HS := Hid.of (Go.Lib.size_eq s)
  go_enter Tryz.func33, Tryz.ntmps33
  go_wp2_with fail
  refine (tooLong_walk s w).mono ?_
  rintro e w' ⟨rfl, hw⟩
  obtain rfl := hw.symm
  dsimp only
  by_cases h1 : 1048576 < s.size
  · have d1 : decide (1048576 < s.size) = true := by simpa using h1
    rw [d1]
    go_wp2
    go_ret2
    rw [quoR_long (by rw [← HS.out]; exact h1)]
    exact ⟨_, rfl, own_nil _ _, Up.refl _⟩
  · have d1 : decide (1048576 < s.size) = false := by simpa using h1
    rw [d1]
    have hle : s.size ≤ 1048576 := by omega
    have HN := Hid.of (show ¬ 1048576 < s.data.toList.length by rw [← HS.out]; exact h1)
    clear d1 h1
    by_cases h2 : s.size < 2
    · have HF := Hid.of (quoR_none HN.out (unq_short h2))
      go_wp2
      go_ret2
      rw [HF.out]
      exact ⟨_, rfl, own_nil _ _, Up.refl _⟩
    · have h0 : 0 < s.size := by omega
      have h2' : 2 ≤ s.size := by omega
      by_cases h3 : s[0].toNat = 34
      · by_cases h4 : s[s.size - 1].toNat = 34
        · have HU := Hid.of (unq_body h2' h3 h4)
          have d0 : decide ((s.size : Int) < 2) = false := by simp; omega
          have d3 : ((s[0].toNat : Int) != 34) = false := by simp; omega
          have d4 : ((s[s.size - 1].toNat : Int) != 34) = false := by simp; omega
          clear h3 h4
          go_wp2_with (with_reducible show wpList _ _ _ ({ dst := _, op := Op.makeSlice 23 _ _, type := _, pos := _, after := _, guard := _ } :: _) _ _; refine Shut.out ?_)
          show wpList _ _ _ _ _ _
          refine wpList_mk rfl _ _ rfl _ _ _ (s.size - 1 - 1) rfl rfl (by omega) (by omega) ?_
          intro w1 h1 u1
          simp only [Act.put, List.setIfInBounds_toArray, List.set_cons_zero, List.set_cons_succ]
          have H1 := Hid.of (And.intro h1 u1)
          clear h1 u1
          obtain ⟨r0, hr0⟩ : ∃ r0, r0 = s.extract 1 (s.size - 1) := ⟨_, rfl⟩
          rw [← hr0]
          have hrs : r0.size + 2 ≤ s.size := by rw [hr0, ByteArray.size_extract]; omega
          rw [← hr0] at HU
          have HR := Hid.of hr0
          clear hr0 d0 d3 d4
          go_wp2
          go_loopw [4, 5] (fun v4 v5 wr => ∃ r : ByteArray, v4 = .string r ∧ r.size ≤ r0.size ∧ Hid (∃ out f, Own wr w.heap.size v5 out ∧ out.length + r.size ≤ r0.size ∧ r.size ≤ f ∧ uqs s.size r0.data.toList = (uqs f r.data.toList).map (out ++ ·) ∧ Up w wr)) (fun v4 _ _ => strLen v4)
          case atStart => exact ⟨r0, rfl, Nat.le_refl _, [], s.size, H1.out.1, by simp, by omega, by simp, H1.out.2⟩
          case round =>
            obtain ⟨r, rfl, hrl, hI⟩ := hrel
            by_cases hr : r.size = 0
            · have he : r.toList.isEmpty = true := by rw [isEmpty_iff]; simpa using hr
              obtain ⟨out, f, g1, g2, g3, g4, g5⟩ := hI.out
              have hnil : r.data.toList = [] := List.eq_nil_of_length_eq_zero (by rw [← Go.Lib.size_eq]; exact hr)
              have HF := Hid.of (quoR_some HN.out (x := out) (by rw [HU.out, g4, hnil]; unfold uqs; simp))
              have HG := Hid.of (And.intro g1 g5)
              clear g1 g2 g3 g4 g5 hI hnil hr
              go_wp2
              go_ret2
              rw [HF.out]
              exact ⟨_, rfl, HG.out.1, HG.out.2⟩
            · have he : r.toList.isEmpty = false := by rw [isEmpty_iff]; simpa using hr
              obtain ⟨out, f, g1, g2, g3, g4, g5⟩ := hI.out
              have hr' : 0 < r.size := by omega
              obtain ⟨c, t, hct⟩ : ∃ c t, r.data.toList = c :: t := by
                cases h : r.data.toList with
                | nil => have h9 := Go.Lib.size_eq r; rw [h, List.length_nil] at h9; omega
                | cons c t => exact ⟨c, t, rfl⟩
              obtain ⟨f', rfl⟩ : ∃ f', f = f' + 1 := ⟨f - 1, by omega⟩
              have hu : uqs (f' + 1) r.data.toList = match fb r.data.toList with | some (x, n) => (uqs f' (r.data.toList.drop n)).map (x :: ·) | none => none := by
                rw [hct]; simp only [uqs]; cases fb (c :: t) <;> rfl
              have HG := Hid.of (And.intro g1 (And.intro g2 (And.intro g3 (And.intro g4 (And.intro g5 hu)))))
              clear g1 g2 g3 g4 g5 hu hct hr hI
              go_wp2_with fail
              refine (firstByte_walk r hr' wr (HT.out.up HG.out.2.2.2.2.1)).mono ?_
              rintro e w2 ⟨rfl, u2⟩
              dsimp only
              cases hf : fb r.data.toList with
              | none =>
                rw [fbV_none hf]
                have HX := Hid.of (quoR_none HN.out (by rw [HU.out, HG.out.2.2.2.1, HG.out.2.2.2.2.2, hf]; rfl))
                have HY := Hid.of (HG.out.2.2.2.2.1.trans u2)
                clear hf u2 HG
                go_wp2
                go_ret2
                rw [HX.out]
                exact ⟨_, rfl, own_nil _ _, HY.out⟩
              | some p =>
                obtain ⟨x, n⟩ := p
                rw [fbV_some hf]
                obtain ⟨hq, hn0, hnl⟩ := fb_some hf
                rw [← Go.Lib.size_eq] at hnl
                have hu2 := HG.out.2.2.2.2.2
                rw [hf] at hu2
                simp only at hu2
                have HV := Hid.of (And.intro hu2 (And.intro u2 (Own.below HG.out.1 u2)))
                have n0 : ((n : Int) == 0) = false := by simp; omega
                clear hf hq u2 hu2
                go_wp2_with (with_reducible show wpList _ _ _ ({ dst := _, op := Op.call { callee := Callee.builtin Builtin.append, args := _, argTypes := _ }, type := _, pos := _, after := _, guard := _ } :: _) _ _; refine Shut.out ?_)
                show wpList _ _ _ _ _ _
                refine wpList_app1 rfl _ _ rfl w.heap.size _ out [x] rfl (by exact HV.out.2.2) 1 rfl (by have := HG.out.2.1; simp; omega) (Nat.le_trans HG.out.2.2.2.2.1.size HV.out.2.1.size) ?_
                intro v3 w3 h3 b3
                simp only [Act.put, List.setIfInBounds_toArray, List.set_cons_zero, List.set_cons_succ]
                have H3 := Hid.of (And.intro h3 ((HG.out.2.2.2.2.1.trans HV.out.2.1).step (Nat.le_refl _) b3))
                clear h3 b3
                have hsz : (r.extract n r.size).size = r.size - n := by rw [ByteArray.size_extract]; omega
                have hdt : (r.extract n r.size).data.toList = r.data.toList.drop n := by
                  rw [Go.Lib.extract_data, List.take_of_length_le (by rw [List.length_drop, ← Go.Lib.size_eq]; omega)]
                have HZ := Hid.of (And.intro hsz hdt)
                clear hsz hdt
                have hnl' : (n : Int) ≤ (r.size : Int) := by omega
                go_wp2
                go_roundw
                case rel =>
                  refine ⟨_, rfl, by rw [HZ.out.1]; omega, out ++ [x], f', H3.out.1, ?_, ?_, ?_, H3.out.2⟩
                  · have := HG.out.2.1; rw [HZ.out.1]; simp; omega
                  · have := HG.out.2.2.1; rw [HZ.out.1]; omega
                  · rw [HG.out.2.2.2.1, HV.out.1, HZ.out.2]; simp [Option.map_map, Function.comp_def]
                case measure => simp only [strLen]; rw [HZ.out.1]; omega
        · have HF := Hid.of (quoR_none HN.out (unq_last h0 h4))
          have d0 : decide ((s.size : Int) < 2) = false := by simp; omega
          have d3 : ((s[0].toNat : Int) != 34) = false := by simp; omega
          have d4 : ((s[s.size - 1].toNat : Int) != 34) = true := by simp; omega
          clear h3 h4
          go_wp2
          go_ret2
          rw [HF.out]
          exact ⟨_, rfl, own_nil _ _, Up.refl _⟩
      · have HF := Hid.of (quoR_none HN.out (unq_head h0 h3))
        have d0 : decide ((s.size : Int) < 2) = false := by simp; omega
        have d3 : ((s[0].toNat : Int) != 34) = true := by simp; omega
        clear h3
        go_wp2
        go_ret2
        rw [HF.out]
        exact ⟨_, rfl, own_nil _ _, Up.refl _⟩
end Go.Proofs.YtbdmpdjhgjidlaaGreatDoor
