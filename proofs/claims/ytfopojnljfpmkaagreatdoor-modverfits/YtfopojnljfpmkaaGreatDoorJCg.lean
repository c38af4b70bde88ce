import Derived.Test.YtfopojnljfpmkaaGreatDoorJCff0
import Derived.Test.YtfopojnljfpmkaaGreatDoorJCff1
import Derived.Test.YtfopojnljfpmkaaGreatDoorJCft0
import Derived.Test.YtfopojnljfpmkaaGreatDoorJCft1
import Derived.Test.YtfopojnljfpmkaaGreatDoorK8
namespace Go.Proofs.YtfopojnljfpmkaaGreatDoor
open Go.RowKit Go.Shelf TextNum ModNum
theorem SplitR_walk (s : ByteArray) (w : World) : Calls Tryz.prog 66 #[.string s] w (SR s.data.toList w) := by
  by_cases hbad : 128 < s.size ∨ s.data.toList.head? ≠ some 118
  · exact Split_bad s w hbad
  · have hs : s.size ≤ 128 := by rcases Nat.lt_or_ge 128 s.size with h | h; exact absurd (.inl h) hbad; exact h
    have hh : s.data.toList.head? = some 118 := Decidable.not_not.1 (fun h => hbad (.inr h))
    cases hinc : sfx INC (s.data.toList.drop 1) with
    | false =>
      by_cases h45 : (45 : UInt8) ∈ vcore s.data.toList
      · exact Split_f1 s w hs hh hinc h45
      · exact Split_f0 s w hs hh hinc h45
    | true =>
      by_cases h45 : (45 : UInt8) ∈ vcore s.data.toList
      · exact Split_t1 s w hs hh hinc h45
      · exact Split_t0 s w hs hh hinc h45
theorem cmpV_on {a b : List UInt8} {q : Prt} (ha : ver a = some q) (hb : ver b = none) : cmpV a b = 1 := by
  obtain ⟨n0, n1, n2, h2⟩ := vp_n a
  have hva : vp a = q := by unfold vp; rw [ha]; rfl
  have hvb : vp b = zp := by unfold vp; rw [hb]; rfl
  rw [hva] at h2
  have hk := (ver_num ha).2
  unfold vok at hk
  rw [h2] at hk
  simp only [Bool.and_eq_true, List.all_cons] at hk
  have hn0 := hk.1.1.1
  have hlen : 0 < n0.length := by
    unfold isNum at hn0
    simp only [Bool.and_eq_true, Bool.or_eq_true, beq_iff_eq, decide_eq_true_eq] at hn0
    omega
  have hu : cmpU n0 [] = 1 := by
    unfold cmpU cmpN
    simp [hlen]
  show cmpP (vp a) (vp b) = 1
  unfold cmpP
  rw [hva, hvb, h2]
  rw [show zp.n = [[], [], []] from rfl, cmp3_eq, hu]
  rfl
theorem ver_bounds {l : List UInt8} {q : Prt} (h : ver l = some q) : (∀ x ∈ q.n, x.length ≤ 1048576) ∧ q.ws.length ≤ 1048576 ∧ ∀ x ∈ q.ws, isWrd x = true ∧ x.length ≤ 1048576 := by
  have hl := (ver_len h).1
  have hk := (ver_num h).2
  have hq : q = vprt l := by
    unfold ver at h
    split at h
    · cases h
    · split at h
      · exact (Option.some.inj h).symm
      · cases h
  have hvc : (vcore l).length ≤ 128 := by
    have h5 : (l.drop 1).length ≤ 128 := by rw [List.length_drop]; omega
    have h6 : ∀ p l : List UInt8, (tsf p l).length ≤ l.length := fun p l => by
      unfold tsf
      by_cases h : sfx p l = true
      · rw [if_pos h]; exact List.length_take_le' _ _
      · rw [if_neg h]; exact Nat.le_refl _
    exact Nat.le_trans (h6 INC _) h5
  have hbh : (bhd 45 (vcore l)).length ≤ 128 := by
    by_cases h45 : (45 : UInt8) ∈ vcore l
    · have := congrArg List.length (cut_eq h45)
      simp only [List.length_append, List.length_cons] at this
      omega
    · rw [bhd_miss h45]; simp
  have hws : q.ws.length ≤ 1048576 ∧ ∀ x ∈ q.ws, x.length ≤ 1048576 := by
    rw [hq]
    show (if 45 ∈ vcore l then pcs 46 (bhd 45 (vcore l)) else []).length ≤ _ ∧ ∀ x ∈ (if 45 ∈ vcore l then pcs 46 (bhd 45 (vcore l)) else []), _
    split
    · refine ⟨by have := pcs_cnt 46 (bhd 45 (vcore l)); omega, fun x hx => ?_⟩
      have := pcs_sub (c := 46) hx
      omega
    · exact ⟨by simp, fun x hx => by cases hx⟩
  refine ⟨fun x hx => ?_, hws.1, fun x hx => ⟨?_, hws.2 x hx⟩⟩
  · rw [hq] at hx
    have := pcs_sub (c := 46) (show x ∈ pcs 46 (ahd 45 (vcore l)) from hx)
    have h2 := ahd_le 45 (vcore l)
    omega
  · unfold vok at hk
    simp only [Bool.and_eq_true] at hk
    exact List.all_eq_true.1 hk.1.2 x hx
end Go.Proofs.YtfopojnljfpmkaaGreatDoor
