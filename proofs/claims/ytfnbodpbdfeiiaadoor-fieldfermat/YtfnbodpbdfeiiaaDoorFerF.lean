import Derived.Test.YtfnbodpbdfeiiaaDoorFermat
namespace Go.Proofs.YtfnbodpbdfeiiaaDoor
open Go.RowKit Go.Shelf FieldNum

theorem not_dvd_of {a : Nat} (h : a % p ≠ 0) : ¬ p ∣ a := fun hd => h ((Nat.dvd_iff_mod_eq_zero).1 hd)
theorem f2e (t ee : Nat) (ht : t = 2) (he : ee = p - 1) : fpow t ee = 1 := by
  unfold fpow
  rw [he]
  exact fermat pr_p (not_dvd_of (by rw [ht]; decide +kernel))
theorem finv (a ff : Nat) (hf : ff = p - 2) : fpow a ff = inv a := by unfold fpow inv; rw [hf]
theorem fhp (a hh : Nat) (h : hh = (p - 1) / 2) : fpow a hh = hp a := by unfold fpow hp; rw [h]
theorem f_one (a ee : Nat) (he : ee = p - 1) (ha : a % p ≠ 0) : fpow a ee = 1 := by
  unfold fpow
  rw [he]
  exact fermat pr_p (not_dvd_of ha)
theorem f_zero (a ee : Nat) (he : ee = p - 1) (ha : a % p = 0) : fpow a ee = 0 := by
  unfold fpow
  rw [← pow_mod_p, ha, he, Nat.zero_pow (by decide +kernel)]
  decide +kernel
theorem ng_one : ng 1 = p - 1 := by decide +kernel
theorem bytesE : (p - 1) / 256 ^ 0 % 256 = 236 ∧ ∀ j, j < 32 → j ≠ 0 → (p - 1) / 256 ^ j % 256 = p / 256 ^ j % 256 := by decide +kernel
theorem bytesF : (p - 2) / 256 ^ 0 % 256 = 235 ∧ ∀ j, j < 32 → j ≠ 0 → (p - 2) / 256 ^ j % 256 = p / 256 ^ j % 256 := by decide +kernel
/-- the number between: the byte 0 turned, the byte 31 not yet -/
theorem bytesG : (p + 9) / 256 ^ 0 % 256 = 246 ∧ ∀ j, j < 32 → j ≠ 0 → (p + 9) / 256 ^ j % 256 = p / 256 ^ j % 256 := by decide +kernel
theorem bytesH : (p - 1) / 2 / 256 ^ 31 % 256 = 63 ∧ ∀ j, j < 32 → j ≠ 31 → (p - 1) / 2 / 256 ^ j % 256 = (p + 9) / 256 ^ j % 256 := by decide +kernel
theorem byteP : p / 256 ^ 0 % 256 = 237 := by decide +kernel

theorem fermat_all (a : Nat) (ha : a < M) (w : World) (hG : w.rangeAt 2 0 PW) (hO : w.rangeAt 0 0 (nl 1)) :
    Calls Tryd.prog 7 #[bv a] w fun e w' => e = .returned (.bool true) ∧ Grown w w' := by
  obtain ⟨pp, hpp⟩ : ∃ q : Nat, q = p := ⟨p, rfl⟩
  obtain ⟨t, ht⟩ : ∃ t : Nat, t = 2 := ⟨2, rfl⟩
  obtain ⟨ee, hee⟩ : ∃ q : Nat, q = p - 1 := ⟨_, rfl⟩
  obtain ⟨ff, hff⟩ : ∃ q : Nat, q = p - 2 := ⟨_, rfl⟩
  obtain ⟨hh, hhh⟩ : ∃ q : Nat, q = (p - 1) / 2 := ⟨_, rfl⟩
  have htM : t < M := by rw [ht]; decide
  have heeM : ee < M := by rw [hee]; decide +kernel
  have hffM : ff < M := by rw [hff]; decide +kernel
  have hhhM : hh < M := by rw [hhh]; decide +kernel
  have hb0 : ∀ (wr : World) {b : Nat}, wr.rangeAt b 0 (bl pp) → wr.cell? ⟨b, 0, none⟩ = some (.int .u8 237) := by
    intro wr b h
    have := h 0 _ (bl_get pp 0 (by decide))
    rw [hpp, byteP] at this
    exact this
  have hmE : ∀ {wr : World} {b : Nat}, wr.rangeAt b 0 (bl pp) → (wr.setCell ⟨b, 0, none⟩ (.int .u8 236)).rangeAt b 0 (bl ee) := by
    intro wr b h
    rw [hpp] at h
    rw [hee]
    exact byte_set (v := 236) (by decide) bytesE.1 bytesE.2 h
  have hmF : ∀ {wr : World} {b : Nat}, wr.rangeAt b 0 (bl pp) → (wr.setCell ⟨b, 0, none⟩ (.int .u8 235)).rangeAt b 0 (bl ff) := by
    intro wr b h
    rw [hpp] at h
    rw [hff]
    exact byte_set (v := 235) (by decide) bytesF.1 bytesF.2 h
  have hmH : ∀ {wr : World} {b : Nat}, wr.rangeAt b 0 (bl pp) → ((wr.setCell ⟨b, 0, none⟩ (.int .u8 246)).setCell ⟨b, 31, none⟩ (.int .u8 63)).rangeAt b 0 (bl hh) := by
    intro wr b h
    rw [hpp] at h
    rw [hhh]
    have h1 := byte_set (v := 246) (by decide) bytesG.1 bytesG.2 h
    exact byte_set (v := 63) (by decide) bytesH.1 bytesH.2 h1
  have h2e := f2e t ee ht hee
  have hinv := finv a ff hff
  have hyp := fhp a hh hhh
  rcases hp_cases a with ⟨hz, he⟩ | ⟨hz, he | he⟩
  · exact fermat_walk0 a t pp ee ff hh ha hpp ht htM heeM hffM hhhM hb0 hmE hmF hmH h2e hinv ((leg_zero_iff a).2 hz) hz (f_zero a ee hee hz) (hyp.trans he) w hG hO
  · have hl : leg a = 1 := by unfold leg; rw [he]; rfl
    exact fermat_walk1 a t pp ee ff hh ha hpp ht htM heeM hffM hhhM hb0 hmE hmF hmH h2e hinv (fun h => hz ((leg_zero_iff a).1 h)) hl (f_one a ee hee hz) (hyp.trans he) w hG hO
  · have k1 : p - 1 ≠ 0 := by decide +kernel
    have k2 : p - 1 ≠ 1 := by decide +kernel
    have hl : leg a = -1 := by unfold leg; rw [he, if_neg k1, if_neg k2]
    exact fermat_walk2 a t pp ee ff hh ha hpp ht htM heeM hffM hhhM hb0 hmE hmF hmH h2e hinv (fun h => hz ((leg_zero_iff a).1 h)) (show ¬ leg a = 1 by rw [hl]; decide) hl (f_one a ee hee hz) (show fpow a hh = ng 1 by rw [hyp, he, ng_one]) w hG hO
end Go.Proofs.YtfnbodpbdfeiiaaDoor
