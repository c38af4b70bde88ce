import Derived.Test.YtaibjeehjhlicaaDoorSl
import Derived.Test.YtaibjeehjhlicaaDoorTw
import Derived.Test.YtaibjeehjhlicaaDoorMp
import Derived.Shelf.Strings.Cut
namespace Go.Proofs.YtaibjeehjhlicaaDoor
open Go.RowKit Go.Shelf TextNum ModNum
def ML (w : World) : Prop := ∃ m, w.cell? ⟨0, 0, none⟩ = some (.int .i64 m)
theorem ML.up {w w' : World} (h : ML w) (k : Up w w') : ML w' := by obtain ⟨m, hm⟩ := h; exact ⟨m, k.cell hm⟩
theorem idx_mem (l : List UInt8) (c : UInt8) : decide (0 ≤ Go.Lib.indexByte l c) = decide (c ∈ l) := by
  rw [decide_eq_decide]
  constructor
  · intro h
    obtain ⟨o, ho⟩ : ∃ o : Nat, Go.Lib.indexByte l c = o := ⟨(Go.Lib.indexByte l c).toNat, by omega⟩
    exact List.mem_of_getElem? (Go.Lib.indexByte_some ho).1
  · intro h
    obtain ⟨k, hk⟩ := List.getElem?_of_mem h
    rcases Int.lt_or_le (Go.Lib.indexByte l c) 0 with h1 | h1
    · have hge : -1 ≤ Go.Lib.indexByte l c := by
        rw [← Go.Lib.index_one]
        rcases Go.Lib.index_spec l [c] with ⟨e, _⟩ | ⟨i, e, _⟩ <;> rw [e] <;> omega
      exact absurd hk (Go.Lib.indexByte_none (by omega) k)
    · exact h1
theorem cut_one (l : List UInt8) (c : UInt8) : Go.Lib.cut l [c] = (ahd c l, bhd c l, decide (c ∈ l)) := by
  unfold Go.Lib.cut
  rw [Go.Lib.index_one]
  have hm := idx_mem l c
  rw [decide_eq_decide] at hm
  by_cases h : c ∈ l
  · rw [if_pos (hm.2 h), decide_eq_true h]
    obtain ⟨o, ho⟩ : ∃ o : Nat, Go.Lib.indexByte l c = o := ⟨(Go.Lib.indexByte l c).toNat, by have := hm.2 h; omega⟩
    rw [ho]
    obtain ⟨h1, h2⟩ := Go.Lib.indexByte_some ho
    have ho2 : o < l.length := (List.getElem?_eq_some_iff.1 h1).1
    have e : l = l.take o ++ c :: l.drop (o + 1) := by
      rw [List.getElem?_eq_getElem ho2] at h1
      injection h1 with h1
      rw [← h1, ← List.drop_eq_getElem_cons ho2, List.take_append_drop]
    have hno : c ∉ l.take o := by
      intro hc
      obtain ⟨k, hk⟩ := List.getElem?_of_mem hc
      rw [List.getElem?_take] at hk
      split at hk
      · rename_i hko; exact h2 k hko hk
      · cases hk
    have e1 := ahd_app hno (l.drop (o + 1))
    have e2 := bhd_app hno (l.drop (o + 1))
    rw [← e] at e1 e2
    rw [e1, e2]
    simp
  · rw [if_neg (fun h1 => h (hm.1 h1)), decide_eq_false h, ahd_miss h, bhd_miss h]
theorem split_pcs (c : UInt8) (l : List UInt8) : Go.Lib.splitK [c] 0 (Go.Lib.count l [c]) l = pcs c l ∧ Go.Lib.count l [c] + 1 = (pcs c l).length := by
  induction hn : l.length using Nat.strongRecOn generalizing l with
  | _ n ih =>
    have hm := idx_mem l c
    rw [decide_eq_decide] at hm
    have hc := cut_one l c
    unfold Go.Lib.cut at hc
    by_cases h : c ∈ l
    · have h0 : 0 ≤ Go.Lib.index l [c] := by rw [Go.Lib.index_one]; exact hm.2 h
      rw [if_pos h0] at hc
      injection hc with h1 h2
      injection h2 with h2 _
      obtain ⟨o, ho⟩ : ∃ o : Nat, Go.Lib.index l [c] = o := ⟨(Go.Lib.index l [c]).toNat, by omega⟩
      rw [ho] at h1 h2
      simp only [Int.toNat_natCast] at h1 h2
      have hlt : (bhd c l).length < n := by
        have := congrArg List.length (cut_eq h)
        rw [List.length_append, List.length_cons] at this
        omega
      obtain ⟨i1, i2⟩ := ih _ hlt (bhd c l) rfl
      have hct := Go.Lib.count_hit (s := l) (sub := [c]) (i := o) (by simp) ho
      rw [h2] at hct
      have hp : pcs c l = ahd c l :: pcs c (bhd c l) := by
        conv => lhs; rw [cut_eq h]
        rw [pcs_hit (ahd_no c l)]
      constructor
      · rw [hct, Nat.add_comm, Go.Lib.splitK, if_neg (by rw [ho]; simp), ho, hp]
        simp only [Int.toNat_natCast, Nat.add_zero]
        rw [h1, h2, i1]
      · rw [hct, hp, List.length_cons]
        omega
    · have hi : Go.Lib.index l [c] = -1 := by
        rcases Go.Lib.index_spec l [c] with ⟨e, _⟩ | ⟨i, e, _⟩
        · exact e
        · exfalso
          have := hm.1 (by rw [← Go.Lib.index_one, e]; omega)
          exact h this
      rw [Go.Lib.count_miss hi, pcs_miss h]
      exact ⟨rfl, rfl⟩
def cst (xs : List (List UInt8)) : List Value := xs.map fun l => Value.string ⟨l.toArray⟩
theorem cst_get {xs : List (List UInt8)} {i : Nat} (h : i < xs.length) : (cst xs)[i]? = some (.string ⟨xs[i].toArray⟩) := by simp [cst, h]
theorem cst_len (xs : List (List UInt8)) : (cst xs).length = xs.length := by simp [cst]
/-- a list of texts that is read -/
def SlS (w : World) (v : Value) (xs : List (List UInt8)) : Prop := ∃ a c, v = .slice a xs.length c ∧ xs.length ≤ c ∧ (xs = [] ∨ ∃ b off, a = some ⟨b, off, none⟩ ∧ b < w.heap.size ∧ ∀ i (h : i < xs.length), w.cell? ⟨b, off + i, none⟩ = some (.string ⟨xs[i].toArray⟩))
theorem SlS.up {w w' : World} {v : Value} {xs : List (List UInt8)} (h : SlS w v xs) (k : Up w w') : SlS w' v xs := by
  obtain ⟨a, c, e, hc0, h⟩ := h
  refine ⟨a, c, e, hc0, ?_⟩
  rcases h with h | ⟨b, off, e2, hb, hc⟩
  · exact .inl h
  · exact .inr ⟨b, off, e2, Nat.lt_of_lt_of_le hb k.size, fun i hi => k.cell (hc i hi)⟩
theorem slS_nil (w : World) : SlS w (.slice none 0 0) [] := ⟨none, 0, rfl, Nat.le_refl _, .inl rfl⟩
theorem SlS.len {w : World} {v : Value} {xs : List (List UInt8)} (h : SlS w v xs) : ∃ a c, v = .slice a xs.length c := by
  obtain ⟨a, c, e, _⟩ := h
  exact ⟨a, c, e⟩
theorem SlS.get {w : World} {a : Option Addr} {n c : Nat} {xs : List (List UInt8)} (h : SlS w (.slice a n c) xs) {i : Nat} (hi : i < xs.length) : ∃ b off, a = some ⟨b, off, none⟩ ∧ w.cell? ⟨b, off + i, none⟩ = some (.string ⟨xs[i].toArray⟩) := by
  obtain ⟨a', c', e, hc0, h⟩ := h
  injection e with e1
  rcases h with rfl | ⟨b, off, rfl, _, hc⟩
  · cases hi
  · exact ⟨b, off, e1, hc i hi⟩
/-- strings.Split at one byte -/
theorem Split_walk (s : ByteArray) (c : UInt8) (hs : s.size ≤ 1048576) (w : World) (hG : ML w) : Calls Tryd.prog 21 #[.string s, .string ⟨#[c]⟩] w fun e w' => e = .returned (.slice (some ⟨w.heap.size, 0, none⟩) (pcs c s.data.toList).length (pcs c s.data.toList).length) ∧ SlS w' (.slice (some ⟨w.heap.size, 0, none⟩) (pcs c s.data.toList).length (pcs c s.data.toList).length) (pcs c s.data.toList) ∧ Up w w' := by
  obtain ⟨m, hm⟩ := hG
  refine (Any.strings_Split Tryd.lays146 (by kernel_rfl) s ⟨#[c]⟩ m w (by omega) hm (Nat.le_refl 1)).mono ?_
  rintro e w' ⟨rfl, rfl⟩
  obtain ⟨h1, h2⟩ := split_pcs c s.data.toList
  have h3 := Go.Lib.splitB_data ⟨#[c]⟩ 0 (Go.Lib.countB s ⟨#[c]⟩) s
  have hcb : Go.Lib.countB s ⟨#[c]⟩ = Go.Lib.count s.data.toList [c] := rfl
  rw [show (⟨#[c]⟩ : ByteArray).data.toList = [c] from rfl, hcb, h1] at h3
  have h4 : (Go.Lib.splitB ⟨#[c]⟩ 0 (Go.Lib.countB s ⟨#[c]⟩) s).map Value.string = cst (pcs c s.data.toList) := by
    rw [hcb, ← h3]
    unfold cst
    rw [List.map_map]
    rfl
  rw [h4, hcb, h2]
  refine ⟨rfl, ⟨_, _, rfl, Nat.le_refl _, .inr ⟨w.heap.size, 0, rfl, by simp, fun i hi => ?_⟩⟩, (Up.refl w).alloc _⟩
  rw [World.cell?_alloc_at _ _ _ _ rfl]
  rw [Nat.zero_add, List.getElem?_toArray, cst_get hi]
theorem len_of (s : ByteArray) : s.data.toList.length = s.size := (Go.Lib.size_eq s).symm
theorem pcs_cnt (c : UInt8) : ∀ l : List UInt8, (pcs c l).length ≤ l.length + 1
  | [] => by simp [pcs]
  | x :: r => by
    have ih := pcs_cnt c r
    unfold pcs
    split
    · simp; omega
    · split
      · simp
      · rename_i p ps h
        rw [h] at ih
        simp at ih ⊢
        omega
/-- what a name may be -/
def pcO (p : List UInt8) : Bool := !(p == [] || p == [46] || p == [46, 46])
def chO (c : UInt8) : Bool := decide (33 ≤ c.toNat) && decide (c.toNat ≤ 126)
def isNm (l : List UInt8) : Bool := decide (l.length ≤ 255) && l.all chO && (pcs 47 l).all pcO
set_option maxRecDepth 100000 in
set_option maxHeartbeats 2000000 in
theorem isName_walk (s : ByteArray) (w : World) (hG : ML w) : Calls Tryd.prog 12 #[.string s] w fun e w' => e = .returned (.bool (isNm s.data.toList)) ∧ Up w w' := by
  by_cases hs : 255 < s.size
  · have hz : (255 : Int) < (s.size : Int) := by omega
    have HR := Hid.of (show isNm s.data.toList = false by unfold isNm; rw [len_of, decide_eq_false (by omega)]; rfl)
    go_enter Tryd.func12, Tryd.ntmps12
    go_wp2
    go_ret
    rw [HR.out]
    exact ⟨rfl, Up.refl _⟩
  · have hz : ¬ (255 : Int) < (s.size : Int) := by omega
    have HS := fun w' => fun (k : Up w w') => Hid.of (Split_walk s 47 (by omega) w' (hG.up k))
    have HL := Hid.of (show isNm s.data.toList = (s.data.toList.all chO && (pcs 47 s.data.toList).all pcO) by unfold isNm; rw [len_of, decide_eq_true (by omega)]; rfl)
    clear hG
    go_enter Tryd.func12, Tryd.ntmps12
    go_wp2
    go_loop [3, 11] (fun _ v11 => ∃ i : Nat, v11 = .int .i64 (i : Int) ∧ i ≤ s.size ∧ Hid ((s.data.toList.take i).all chO = true)) (fun _ v11 => s.size - (intOf v11).toNat)
    case atStart => exact ⟨0, rfl, by omega, Hid.of (by simp)⟩
    case round =>
      obtain ⟨i, rfl, hi, hI⟩ := hrel
      by_cases hlt : i < s.size
      · have hltz : (i : Int) < (s.size : Int) := by omega
        have hl : i < s.data.toList.length := by rw [len_of]; exact hlt
        have HT := Hid.of (List.take_succ_eq_append_getElem hl)
        have HX := Hid.of (sget' s i hlt)
        have HM := Hid.of (List.getElem_mem hl)
        generalize hxx : s[i] = x at *
        cases hc : chO x with
        | false =>
          have HR := Hid.of (show isNm s.data.toList = false by
            rw [HL.out]
            have : s.data.toList.all chO = false := by
              rw [List.all_eq_false]
              exact ⟨_, HM.out, by rw [← HX.out, hc]; simp⟩
            rw [this]; rfl)
          unfold chO at hc
          by_cases h1 : x.toNat < 33
          · have h1z : (x.toNat : Int) < 33 := by omega
            clear hc
            go_wp2
            go_ret
            rw [HR.out]
            exact ⟨rfl, Up.refl _⟩
          · have h1z : ¬ (x.toNat : Int) < 33 := by omega
            have h2z : (126 : Int) < (x.toNat : Int) := by
              simp only [Bool.and_eq_false_iff, decide_eq_false_iff_not] at hc
              omega
            clear hc
            go_wp2
            go_ret
            rw [HR.out]
            exact ⟨rfl, Up.refl _⟩
        | true =>
          have HN := Hid.of (show (s.data.toList.take (i + 1)).all chO = true by
            rw [HT.out, List.all_append, hI.out]
            simp only [List.all_cons, List.all_nil, ← HX.out, hc]
            rfl)
          unfold chO at hc
          simp only [Bool.and_eq_true, decide_eq_true_eq] at hc
          have h1z : ¬ (x.toNat : Int) < 33 := by omega
          have h2z : ¬ (126 : Int) < (x.toNat : Int) := by omega
          clear hc
          go_wp2
          go_round
          case rel => exact ⟨i + 1, by go_num, by omega, HN.out⟩
          case measure => simp [intOf]; omega
      · have hltz : ¬ (i : Int) < (s.size : Int) := by omega
        have HA := Hid.of (show s.data.toList.all chO = true by
          have := hI.out
          rwa [List.take_of_length_le (by rw [len_of]; omega)] at this)
        clear hI
        have HP := Hid.of (pcs_cnt 47 s.data.toList)
        go_wp2_with fail
        refine (HS w (Up.refl w)).out.mono ?_
        obtain ⟨ps, hps⟩ : ∃ ps, pcs 47 s.data.toList = ps := ⟨_, rfl⟩
        rw [hps] at HL HP ⊢
        rintro e w1 ⟨rfl, s1, u1⟩
        have HU1 := Hid.of u1
        have HS1 := Hid.of s1
        have hpl : ps.length ≤ 256 := by have := HP.out; rw [len_of] at this; omega
        clear u1 s1 HS hps HP
        dsimp only
        go_wp2
        go_loopw [5, 28] (fun _ v28 wr => ∃ i : Nat, v28 = .int .i64 (i : Int) ∧ i ≤ ps.length ∧ Hid ((ps.take i).all pcO = true ∧ Up w1 wr)) (fun _ v28 _ => ps.length - (intOf v28).toNat)
        case atStart => exact ⟨0, rfl, by omega, Hid.of ⟨by simp, Up.refl _⟩⟩
        case round =>
          obtain ⟨k, rfl, hk, hK⟩ := hrel
          by_cases hlt2 : k < ps.length
          · have hlt2z : (k : Int) < (ps.length : Int) := by omega
            obtain ⟨b, off, e2, hc⟩ := (HS1.out.up hK.out.2).get hlt2
            injection e2 with e2
            injection e2 with e2 e3
            subst e2 e3
            have HT := Hid.of (List.take_succ_eq_append_getElem hlt2)
            have HM := Hid.of (List.getElem_mem hlt2)
            generalize ps[k] = x at *
            simp only [Nat.zero_add] at hc
            cases hx : pcO x with
            | false =>
              have HR := Hid.of (show isNm s.data.toList = false by
                rw [HL.out]
                have : ps.all pcO = false := by
                  rw [List.all_eq_false]
                  exact ⟨_, HM.out, by rw [hx]; simp⟩
                rw [this, Bool.and_false])
              unfold pcO at hx
              have hx2 : x = [] ∨ x = [46] ∨ x = [46, 46] := by
                rw [Bool.not_eq_false'] at hx
                simp only [Bool.or_eq_true, beq_iff_eq] at hx
                rcases hx with (h | h) | h
                · exact .inl h
                · exact .inr (.inl h)
                · exact .inr (.inr h)
              clear hx
              rcases hx2 with rfl | rfl | rfl
              all_goals go_wp2
              all_goals go_ret
              all_goals rw [HR.out]
              all_goals exact ⟨rfl, HU1.out.trans hK.out.2⟩
            | true =>
              have HN := Hid.of (show (ps.take (k + 1)).all pcO = true by
                rw [HT.out, List.all_append, hK.out.1]
                simp only [List.all_cons, List.all_nil, hx]
                rfl)
              unfold pcO at hx
              have hx2 : x ≠ [] ∧ x ≠ [46] ∧ x ≠ [46, 46] := by
                rw [Bool.not_eq_true'] at hx
                simp only [Bool.or_eq_false_iff, beq_eq_false_iff_ne] at hx
                exact ⟨hx.1.1, hx.1.2, hx.2⟩
              have b0 : (x == []) = false := beq_eq_false_iff_ne.2 hx2.1
              have b1 : (x == [46]) = false := beq_eq_false_iff_ne.2 hx2.2.1
              have b2 : (x == [46, 46]) = false := beq_eq_false_iff_ne.2 hx2.2.2
              clear hx hx2
              go_wp2
              go_roundw
              case rel => exact ⟨k + 1, by go_num, by omega, HN.out, hK.out.2⟩
              case measure => simp [intOf]; omega
          · have hlt2z : ¬ (k : Int) < (ps.length : Int) := by omega
            have HR := Hid.of (show isNm s.data.toList = true by
              have h5 := hK.out.1
              rw [List.take_of_length_le (by omega)] at h5
              rw [HL.out, HA.out, h5]; rfl)
            go_wp2
            go_ret
            rw [HR.out]
            exact ⟨rfl, HU1.out.trans hK.out.2⟩
end Go.Proofs.YtaibjeehjhlicaaDoor
