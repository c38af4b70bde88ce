import Derived.Test.YtaibjeehjhlicaaGreatDoorQbr
namespace Go.Proofs.YtaibjeehjhlicaaGreatDoor
open Go.RowKit Go.Shelf TextNum ModNum
theorem find_err {B D T : Nat} {s : DD} (nm : ByteArray) (w : World) (h : DOk w B D T s) (hn : fnE s nm.data.toList ≠ 0) : Calls Tryz.prog 44 #[pv D, .string nm] w fun e w' => e = .returned (.tuple #[.pointer none, .int .i64 (fnE s nm.data.toList)]) ∧ Up w w' := by
  unfold fnE at hn ⊢
  cases hi : isNm nm.data.toList with
  | true =>
    rw [hi, if_pos rfl] at hn
    have hl : nm.data.toList ∉ s.nf.map (·.1) := fun hl => hn (if_pos hl)
    rw [if_pos rfl, if_neg hl]
    exact find_no nm w h hi hl
  | false =>
    rw [if_neg (by decide)]
    have hh : Maps.has s.dm (kS nm) = true → False := fun hh => by
      obtain ⟨p, hp, e⟩ := List.mem_map.1 ((h.isn.has _).1 hh)
      have := h.nms p hp
      rw [e, hi] at this
      cases this
    have := find_gen D s.M s.nM 0 nm s.dm _ _ _ _ _ _ _ _ _ _ _ w h.ml h.disk h.mnow (fun z e => absurd e hh)
    have e : fnd s.dm nm 0 = (.pointer none, 120) := by
      unfold fnd
      rw [if_pos hi]
    rw [e] at this
    exact this
theorem fnE_of {w : World} {B D T : Nat} {s : DD} (h : DOk w B D T s) {l : List UInt8} {f : FL} (hf : (l, f) ∈ s.nf) : fnE s l = 0 := by
  unfold fnE
  rw [if_pos (h.nms _ hf), if_pos (List.mem_map.2 ⟨_, hf, rfl⟩)]
theorem fnE_get {s : DD} {l : List UInt8} (h : fnE s l = 0) : ∃ f, (l, f) ∈ s.nf := by
  unfold fnE at h
  split at h
  · split at h
    · rename_i hl
      obtain ⟨p, hp, rfl⟩ := List.mem_map.1 hl
      exact ⟨p.2, hp⟩
    · cases h
  · cases h
set_option maxRecDepth 100000 in
theorem actX_Create {B D T : Nat} {s : DD} (kd : Int) (nm to : ByteArray) (p : Int) (ds : List UInt8) (c0 c1 : Value) (w W : World) (h : DOk W B D T s) (u : Up w W) (hu : s.unt ≤ 9223372036854775807) (hT : T + 3 ≤ 100000)
    (H : s.dead = false → ownE kd nm to p ds.length s = 0 → ∀ w4, DOk w4 B D (T + 1) (acS s) → Fr (fun k => k = D) W w4 → W.grownBy w4 (some D) → Calls Tryz.prog 52 #[c0, c1] w4 fun e w9 => e = .returned (.tuple #[]) ∧ ∃ s2, Aft w w9 B D T s s2 ∧ Eff kd nm to p ds (acS s) s2) :
    Calls Tryz.prog 45 #[pv D, .int .i64 (ownE kd nm to p ds.length s), .func (.func 52) #[] #[c0, c1]] W fun e w9 => e = .returned (.int .i64 (erE kd nm to p ds.length s)) ∧ ∃ s', AftX w w9 B D T s s' ∧ Stp kd nm to p ds s s' := by
  have hnum := h.num
  cases hd : s.dead with
  | true =>
    have hk : At W D 85 [.int .i64 (s.room : Int), .int .i64 (usd s.nf : Int), .bool true, .map (some s.M), .map (some s.L), s.vC, s.vLo, .int .i64 (lsd (fls s) : Int), .int .i64 (s.trn : Int), .int .i64 (s.acts : Int), .int .i64 (s.unt : Int), .int .i64 s.flt] := by
      have := h.disk
      unfold dcl at this
      rw [hd] at this
      exact this
    refine (act_dead D _ _ _ _ _ _ _ _ _ _ _ _ _ W hk).mono ?_
    rintro e w9 ⟨rfl, rfl⟩
    refine ⟨by unfold erE; rw [if_pos hd], s, ⟨h.more (by omega) hT, fun k hk => .inl hk, (Fr.refl _ w).up u⟩, .inl ⟨hd, rfl⟩⟩
  | false =>
    have hdn : ¬ s.dead = true := by rw [hd]; decide
    by_cases ho : ownE kd nm to p ds.length s = 0
    · rw [ho]
      by_cases q0 : fau s = 0
      · refine (act3_Create D s.unt s.acts s.room (usd s.nf) (lsd (fls s)) s.trn s.flt (.map (some s.M)) (.map (some s.L)) s.vC s.vLo _ _ W (h.disk0 hd) hu (by omega) q0 (fun w9 => ∃ s2, Aft w w9 B D T s s2 ∧ Eff kd nm to p ds (acS s) s2) (fun w4 hd4 g4 => ?_)).mono ?_
        · obtain ⟨h4, f4⟩ := h.acs hd g4 hd4 (by omega)
          exact H hd ho w4 h4 f4 g4
        · rintro e w9 ⟨rfl, s2, ha, he⟩
          exact ⟨by unfold erE; rw [if_neg hdn, if_pos ho, q0], s2, ha.x hT, .inr (.inr (.inl ⟨hd, ho, q0, he⟩))⟩
      · by_cases q1 : fau s = 125
        · refine (act4_Create D s.unt s.acts s.room (usd s.nf) (lsd (fls s)) s.trn s.flt (.map (some s.M)) (.map (some s.L)) s.vC s.vLo _ _ W (h.disk0 hd) hu (by omega) q1 (fun w9 => ∃ s2, Aft w w9 B D T s s2 ∧ Eff kd nm to p ds (acS s) s2) (fun w2 ⟨s2, ha, _⟩ => ⟨_, _, _, _, _, _, _, _, _, _, _, _, ha.1.disk⟩) (fun w4 hd4 g4 => ?_)).mono ?_
          · obtain ⟨h4, f4⟩ := h.acs hd g4 hd4 (by omega)
            exact H hd ho w4 h4 f4 g4
          · rintro e w9 ⟨rfl, w8, ⟨s2, ha, he⟩, rfl⟩
            exact ⟨by unfold erE; rw [if_neg hdn, if_pos ho, q1], ddS s2, AftX.died ha hT, .inr (.inr (.inr (.inl ⟨hd, ho, q1, s2, he, rfl⟩)))⟩
        · refine (act_bad D s.unt s.acts s.room (usd s.nf) (lsd (fls s)) s.trn s.flt (.map (some s.M)) (.map (some s.L)) s.vC s.vLo _ W (h.disk0 hd) hu (by omega) (fau s) rfl q0 q1).mono ?_
          rintro e w9 ⟨rfl, hd4, g4⟩
          exact ⟨by unfold erE; rw [if_neg hdn, if_pos ho], acS s, (err_aft h hd u g4 hd4 (by omega)).x hT, .inr (.inr (.inr (.inr ⟨hd, ho, q0, q1, rfl⟩)))⟩
    · refine (act_own D s.unt s.acts s.room (usd s.nf) (lsd (fls s)) s.trn s.flt (.map (some s.M)) (.map (some s.L)) s.vC s.vLo _ _ W (h.disk0 hd) hu (by omega) ho).mono ?_
      rintro e w9 ⟨rfl, hd4, g4⟩
      exact ⟨by unfold erE; rw [if_neg hdn, if_neg ho], acS s, (err_aft h hd u g4 hd4 (by omega)).x hT, .inr (.inl ⟨hd, ho, rfl⟩)⟩
set_option maxRecDepth 100000 in
theorem actX_Write {B D T : Nat} {s : DD} (kd : Int) (nm to : ByteArray) (p : Int) (ds : List UInt8) (c0 c1 c2 c3 : Value) (w W : World) (h : DOk W B D T s) (u : Up w W) (hu : s.unt ≤ 9223372036854775807) (hT : T + 3 ≤ 100000)
    (H : s.dead = false → ownE kd nm to p ds.length s = 0 → ∀ w4, DOk w4 B D (T + 1) (acS s) → Fr (fun k => k = D) W w4 → W.grownBy w4 (some D) → Calls Tryz.prog 57 #[c0, c1, c2, c3] w4 fun e w9 => e = .returned (.tuple #[]) ∧ ∃ s2, Aft w w9 B D T s s2 ∧ Eff kd nm to p ds (acS s) s2) :
    Calls Tryz.prog 45 #[pv D, .int .i64 (ownE kd nm to p ds.length s), .func (.func 57) #[] #[c0, c1, c2, c3]] W fun e w9 => e = .returned (.int .i64 (erE kd nm to p ds.length s)) ∧ ∃ s', AftX w w9 B D T s s' ∧ Stp kd nm to p ds s s' := by
  have hnum := h.num
  cases hd : s.dead with
  | true =>
    have hk : At W D 85 [.int .i64 (s.room : Int), .int .i64 (usd s.nf : Int), .bool true, .map (some s.M), .map (some s.L), s.vC, s.vLo, .int .i64 (lsd (fls s) : Int), .int .i64 (s.trn : Int), .int .i64 (s.acts : Int), .int .i64 (s.unt : Int), .int .i64 s.flt] := by
      have := h.disk
      unfold dcl at this
      rw [hd] at this
      exact this
    refine (act_dead D _ _ _ _ _ _ _ _ _ _ _ _ _ W hk).mono ?_
    rintro e w9 ⟨rfl, rfl⟩
    refine ⟨by unfold erE; rw [if_pos hd], s, ⟨h.more (by omega) hT, fun k hk => .inl hk, (Fr.refl _ w).up u⟩, .inl ⟨hd, rfl⟩⟩
  | false =>
    have hdn : ¬ s.dead = true := by rw [hd]; decide
    by_cases ho : ownE kd nm to p ds.length s = 0
    · rw [ho]
      by_cases q0 : fau s = 0
      · refine (act3_Write D s.unt s.acts s.room (usd s.nf) (lsd (fls s)) s.trn s.flt (.map (some s.M)) (.map (some s.L)) s.vC s.vLo _ _ _ _ W (h.disk0 hd) hu (by omega) q0 (fun w9 => ∃ s2, Aft w w9 B D T s s2 ∧ Eff kd nm to p ds (acS s) s2) (fun w4 hd4 g4 => ?_)).mono ?_
        · obtain ⟨h4, f4⟩ := h.acs hd g4 hd4 (by omega)
          exact H hd ho w4 h4 f4 g4
        · rintro e w9 ⟨rfl, s2, ha, he⟩
          exact ⟨by unfold erE; rw [if_neg hdn, if_pos ho, q0], s2, ha.x hT, .inr (.inr (.inl ⟨hd, ho, q0, he⟩))⟩
      · by_cases q1 : fau s = 125
        · refine (act4_Write D s.unt s.acts s.room (usd s.nf) (lsd (fls s)) s.trn s.flt (.map (some s.M)) (.map (some s.L)) s.vC s.vLo _ _ _ _ W (h.disk0 hd) hu (by omega) q1 (fun w9 => ∃ s2, Aft w w9 B D T s s2 ∧ Eff kd nm to p ds (acS s) s2) (fun w2 ⟨s2, ha, _⟩ => ⟨_, _, _, _, _, _, _, _, _, _, _, _, ha.1.disk⟩) (fun w4 hd4 g4 => ?_)).mono ?_
          · obtain ⟨h4, f4⟩ := h.acs hd g4 hd4 (by omega)
            exact H hd ho w4 h4 f4 g4
          · rintro e w9 ⟨rfl, w8, ⟨s2, ha, he⟩, rfl⟩
            exact ⟨by unfold erE; rw [if_neg hdn, if_pos ho, q1], ddS s2, AftX.died ha hT, .inr (.inr (.inr (.inl ⟨hd, ho, q1, s2, he, rfl⟩)))⟩
        · refine (act_bad D s.unt s.acts s.room (usd s.nf) (lsd (fls s)) s.trn s.flt (.map (some s.M)) (.map (some s.L)) s.vC s.vLo _ W (h.disk0 hd) hu (by omega) (fau s) rfl q0 q1).mono ?_
          rintro e w9 ⟨rfl, hd4, g4⟩
          exact ⟨by unfold erE; rw [if_neg hdn, if_pos ho], acS s, (err_aft h hd u g4 hd4 (by omega)).x hT, .inr (.inr (.inr (.inr ⟨hd, ho, q0, q1, rfl⟩)))⟩
    · refine (act_own D s.unt s.acts s.room (usd s.nf) (lsd (fls s)) s.trn s.flt (.map (some s.M)) (.map (some s.L)) s.vC s.vLo _ _ W (h.disk0 hd) hu (by omega) ho).mono ?_
      rintro e w9 ⟨rfl, hd4, g4⟩
      exact ⟨by unfold erE; rw [if_neg hdn, if_neg ho], acS s, (err_aft h hd u g4 hd4 (by omega)).x hT, .inr (.inl ⟨hd, ho, rfl⟩)⟩
set_option maxRecDepth 100000 in
theorem actX_Rename {B D T : Nat} {s : DD} (kd : Int) (nm to : ByteArray) (p : Int) (ds : List UInt8) (c0 c1 c2 : Value) (w W : World) (h : DOk W B D T s) (u : Up w W) (hu : s.unt ≤ 9223372036854775807) (hT : T + 3 ≤ 100000)
    (H : s.dead = false → ownE kd nm to p ds.length s = 0 → ∀ w4, DOk w4 B D (T + 1) (acS s) → Fr (fun k => k = D) W w4 → W.grownBy w4 (some D) → Calls Tryz.prog 59 #[c0, c1, c2] w4 fun e w9 => e = .returned (.tuple #[]) ∧ ∃ s2, Aft w w9 B D T s s2 ∧ Eff kd nm to p ds (acS s) s2) :
    Calls Tryz.prog 45 #[pv D, .int .i64 (ownE kd nm to p ds.length s), .func (.func 59) #[] #[c0, c1, c2]] W fun e w9 => e = .returned (.int .i64 (erE kd nm to p ds.length s)) ∧ ∃ s', AftX w w9 B D T s s' ∧ Stp kd nm to p ds s s' := by
  have hnum := h.num
  cases hd : s.dead with
  | true =>
    have hk : At W D 85 [.int .i64 (s.room : Int), .int .i64 (usd s.nf : Int), .bool true, .map (some s.M), .map (some s.L), s.vC, s.vLo, .int .i64 (lsd (fls s) : Int), .int .i64 (s.trn : Int), .int .i64 (s.acts : Int), .int .i64 (s.unt : Int), .int .i64 s.flt] := by
      have := h.disk
      unfold dcl at this
      rw [hd] at this
      exact this
    refine (act_dead D _ _ _ _ _ _ _ _ _ _ _ _ _ W hk).mono ?_
    rintro e w9 ⟨rfl, rfl⟩
    refine ⟨by unfold erE; rw [if_pos hd], s, ⟨h.more (by omega) hT, fun k hk => .inl hk, (Fr.refl _ w).up u⟩, .inl ⟨hd, rfl⟩⟩
  | false =>
    have hdn : ¬ s.dead = true := by rw [hd]; decide
    by_cases ho : ownE kd nm to p ds.length s = 0
    · rw [ho]
      by_cases q0 : fau s = 0
      · refine (act3_Rename D s.unt s.acts s.room (usd s.nf) (lsd (fls s)) s.trn s.flt (.map (some s.M)) (.map (some s.L)) s.vC s.vLo _ _ _ W (h.disk0 hd) hu (by omega) q0 (fun w9 => ∃ s2, Aft w w9 B D T s s2 ∧ Eff kd nm to p ds (acS s) s2) (fun w4 hd4 g4 => ?_)).mono ?_
        · obtain ⟨h4, f4⟩ := h.acs hd g4 hd4 (by omega)
          exact H hd ho w4 h4 f4 g4
        · rintro e w9 ⟨rfl, s2, ha, he⟩
          exact ⟨by unfold erE; rw [if_neg hdn, if_pos ho, q0], s2, ha.x hT, .inr (.inr (.inl ⟨hd, ho, q0, he⟩))⟩
      · by_cases q1 : fau s = 125
        · refine (act4_Rename D s.unt s.acts s.room (usd s.nf) (lsd (fls s)) s.trn s.flt (.map (some s.M)) (.map (some s.L)) s.vC s.vLo _ _ _ W (h.disk0 hd) hu (by omega) q1 (fun w9 => ∃ s2, Aft w w9 B D T s s2 ∧ Eff kd nm to p ds (acS s) s2) (fun w2 ⟨s2, ha, _⟩ => ⟨_, _, _, _, _, _, _, _, _, _, _, _, ha.1.disk⟩) (fun w4 hd4 g4 => ?_)).mono ?_
          · obtain ⟨h4, f4⟩ := h.acs hd g4 hd4 (by omega)
            exact H hd ho w4 h4 f4 g4
          · rintro e w9 ⟨rfl, w8, ⟨s2, ha, he⟩, rfl⟩
            exact ⟨by unfold erE; rw [if_neg hdn, if_pos ho, q1], ddS s2, AftX.died ha hT, .inr (.inr (.inr (.inl ⟨hd, ho, q1, s2, he, rfl⟩)))⟩
        · refine (act_bad D s.unt s.acts s.room (usd s.nf) (lsd (fls s)) s.trn s.flt (.map (some s.M)) (.map (some s.L)) s.vC s.vLo _ W (h.disk0 hd) hu (by omega) (fau s) rfl q0 q1).mono ?_
          rintro e w9 ⟨rfl, hd4, g4⟩
          exact ⟨by unfold erE; rw [if_neg hdn, if_pos ho], acS s, (err_aft h hd u g4 hd4 (by omega)).x hT, .inr (.inr (.inr (.inr ⟨hd, ho, q0, q1, rfl⟩)))⟩
    · refine (act_own D s.unt s.acts s.room (usd s.nf) (lsd (fls s)) s.trn s.flt (.map (some s.M)) (.map (some s.L)) s.vC s.vLo _ _ W (h.disk0 hd) hu (by omega) ho).mono ?_
      rintro e w9 ⟨rfl, hd4, g4⟩
      exact ⟨by unfold erE; rw [if_neg hdn, if_neg ho], acS s, (err_aft h hd u g4 hd4 (by omega)).x hT, .inr (.inl ⟨hd, ho, rfl⟩)⟩
set_option maxRecDepth 100000 in
theorem actX_Remove {B D T : Nat} {s : DD} (kd : Int) (nm to : ByteArray) (p : Int) (ds : List UInt8) (c0 c1 : Value) (w W : World) (h : DOk W B D T s) (u : Up w W) (hu : s.unt ≤ 9223372036854775807) (hT : T + 3 ≤ 100000)
    (H : s.dead = false → ownE kd nm to p ds.length s = 0 → ∀ w4, DOk w4 B D (T + 1) (acS s) → Fr (fun k => k = D) W w4 → W.grownBy w4 (some D) → Calls Tryz.prog 99 #[c0, c1] w4 fun e w9 => e = .returned (.tuple #[]) ∧ ∃ s2, Aft w w9 B D T s s2 ∧ Eff kd nm to p ds (acS s) s2) :
    Calls Tryz.prog 45 #[pv D, .int .i64 (ownE kd nm to p ds.length s), .func (.func 99) #[] #[c0, c1]] W fun e w9 => e = .returned (.int .i64 (erE kd nm to p ds.length s)) ∧ ∃ s', AftX w w9 B D T s s' ∧ Stp kd nm to p ds s s' := by
  have hnum := h.num
  cases hd : s.dead with
  | true =>
    have hk : At W D 85 [.int .i64 (s.room : Int), .int .i64 (usd s.nf : Int), .bool true, .map (some s.M), .map (some s.L), s.vC, s.vLo, .int .i64 (lsd (fls s) : Int), .int .i64 (s.trn : Int), .int .i64 (s.acts : Int), .int .i64 (s.unt : Int), .int .i64 s.flt] := by
      have := h.disk
      unfold dcl at this
      rw [hd] at this
      exact this
    refine (act_dead D _ _ _ _ _ _ _ _ _ _ _ _ _ W hk).mono ?_
    rintro e w9 ⟨rfl, rfl⟩
    refine ⟨by unfold erE; rw [if_pos hd], s, ⟨h.more (by omega) hT, fun k hk => .inl hk, (Fr.refl _ w).up u⟩, .inl ⟨hd, rfl⟩⟩
  | false =>
    have hdn : ¬ s.dead = true := by rw [hd]; decide
    by_cases ho : ownE kd nm to p ds.length s = 0
    · rw [ho]
      by_cases q0 : fau s = 0
      · refine (act3_Remove D s.unt s.acts s.room (usd s.nf) (lsd (fls s)) s.trn s.flt (.map (some s.M)) (.map (some s.L)) s.vC s.vLo _ _ W (h.disk0 hd) hu (by omega) q0 (fun w9 => ∃ s2, Aft w w9 B D T s s2 ∧ Eff kd nm to p ds (acS s) s2) (fun w4 hd4 g4 => ?_)).mono ?_
        · obtain ⟨h4, f4⟩ := h.acs hd g4 hd4 (by omega)
          exact H hd ho w4 h4 f4 g4
        · rintro e w9 ⟨rfl, s2, ha, he⟩
          exact ⟨by unfold erE; rw [if_neg hdn, if_pos ho, q0], s2, ha.x hT, .inr (.inr (.inl ⟨hd, ho, q0, he⟩))⟩
      · by_cases q1 : fau s = 125
        · refine (act4_Remove D s.unt s.acts s.room (usd s.nf) (lsd (fls s)) s.trn s.flt (.map (some s.M)) (.map (some s.L)) s.vC s.vLo _ _ W (h.disk0 hd) hu (by omega) q1 (fun w9 => ∃ s2, Aft w w9 B D T s s2 ∧ Eff kd nm to p ds (acS s) s2) (fun w2 ⟨s2, ha, _⟩ => ⟨_, _, _, _, _, _, _, _, _, _, _, _, ha.1.disk⟩) (fun w4 hd4 g4 => ?_)).mono ?_
          · obtain ⟨h4, f4⟩ := h.acs hd g4 hd4 (by omega)
            exact H hd ho w4 h4 f4 g4
          · rintro e w9 ⟨rfl, w8, ⟨s2, ha, he⟩, rfl⟩
            exact ⟨by unfold erE; rw [if_neg hdn, if_pos ho, q1], ddS s2, AftX.died ha hT, .inr (.inr (.inr (.inl ⟨hd, ho, q1, s2, he, rfl⟩)))⟩
        · refine (act_bad D s.unt s.acts s.room (usd s.nf) (lsd (fls s)) s.trn s.flt (.map (some s.M)) (.map (some s.L)) s.vC s.vLo _ W (h.disk0 hd) hu (by omega) (fau s) rfl q0 q1).mono ?_
          rintro e w9 ⟨rfl, hd4, g4⟩
          exact ⟨by unfold erE; rw [if_neg hdn, if_pos ho], acS s, (err_aft h hd u g4 hd4 (by omega)).x hT, .inr (.inr (.inr (.inr ⟨hd, ho, q0, q1, rfl⟩)))⟩
    · refine (act_own D s.unt s.acts s.room (usd s.nf) (lsd (fls s)) s.trn s.flt (.map (some s.M)) (.map (some s.L)) s.vC s.vLo _ _ W (h.disk0 hd) hu (by omega) ho).mono ?_
      rintro e w9 ⟨rfl, hd4, g4⟩
      exact ⟨by unfold erE; rw [if_neg hdn, if_neg ho], acS s, (err_aft h hd u g4 hd4 (by omega)).x hT, .inr (.inl ⟨hd, ho, rfl⟩)⟩
set_option maxRecDepth 100000 in
theorem actX_Sync {B D T : Nat} {s : DD} (kd : Int) (nm to : ByteArray) (p : Int) (ds : List UInt8) (c0 c1 : Value) (w W : World) (h : DOk W B D T s) (u : Up w W) (hu : s.unt ≤ 9223372036854775807) (hT : T + 3 ≤ 100000)
    (H : s.dead = false → ownE kd nm to p ds.length s = 0 → ∀ w4, DOk w4 B D (T + 1) (acS s) → Fr (fun k => k = D) W w4 → W.grownBy w4 (some D) → Calls Tryz.prog 46 #[c0, c1] w4 fun e w9 => e = .returned (.tuple #[]) ∧ ∃ s2, Aft w w9 B D T s s2 ∧ Eff kd nm to p ds (acS s) s2) :
    Calls Tryz.prog 45 #[pv D, .int .i64 (ownE kd nm to p ds.length s), .func (.func 46) #[] #[c0, c1]] W fun e w9 => e = .returned (.int .i64 (erE kd nm to p ds.length s)) ∧ ∃ s', AftX w w9 B D T s s' ∧ Stp kd nm to p ds s s' := by
  have hnum := h.num
  cases hd : s.dead with
  | true =>
    have hk : At W D 85 [.int .i64 (s.room : Int), .int .i64 (usd s.nf : Int), .bool true, .map (some s.M), .map (some s.L), s.vC, s.vLo, .int .i64 (lsd (fls s) : Int), .int .i64 (s.trn : Int), .int .i64 (s.acts : Int), .int .i64 (s.unt : Int), .int .i64 s.flt] := by
      have := h.disk
      unfold dcl at this
      rw [hd] at this
      exact this
    refine (act_dead D _ _ _ _ _ _ _ _ _ _ _ _ _ W hk).mono ?_
    rintro e w9 ⟨rfl, rfl⟩
    refine ⟨by unfold erE; rw [if_pos hd], s, ⟨h.more (by omega) hT, fun k hk => .inl hk, (Fr.refl _ w).up u⟩, .inl ⟨hd, rfl⟩⟩
  | false =>
    have hdn : ¬ s.dead = true := by rw [hd]; decide
    by_cases ho : ownE kd nm to p ds.length s = 0
    · rw [ho]
      by_cases q0 : fau s = 0
      · refine (act3_Sync D s.unt s.acts s.room (usd s.nf) (lsd (fls s)) s.trn s.flt (.map (some s.M)) (.map (some s.L)) s.vC s.vLo _ _ W (h.disk0 hd) hu (by omega) q0 (fun w9 => ∃ s2, Aft w w9 B D T s s2 ∧ Eff kd nm to p ds (acS s) s2) (fun w4 hd4 g4 => ?_)).mono ?_
        · obtain ⟨h4, f4⟩ := h.acs hd g4 hd4 (by omega)
          exact H hd ho w4 h4 f4 g4
        · rintro e w9 ⟨rfl, s2, ha, he⟩
          exact ⟨by unfold erE; rw [if_neg hdn, if_pos ho, q0], s2, ha.x hT, .inr (.inr (.inl ⟨hd, ho, q0, he⟩))⟩
      · by_cases q1 : fau s = 125
        · refine (act4_Sync D s.unt s.acts s.room (usd s.nf) (lsd (fls s)) s.trn s.flt (.map (some s.M)) (.map (some s.L)) s.vC s.vLo _ _ W (h.disk0 hd) hu (by omega) q1 (fun w9 => ∃ s2, Aft w w9 B D T s s2 ∧ Eff kd nm to p ds (acS s) s2) (fun w2 ⟨s2, ha, _⟩ => ⟨_, _, _, _, _, _, _, _, _, _, _, _, ha.1.disk⟩) (fun w4 hd4 g4 => ?_)).mono ?_
          · obtain ⟨h4, f4⟩ := h.acs hd g4 hd4 (by omega)
            exact H hd ho w4 h4 f4 g4
          · rintro e w9 ⟨rfl, w8, ⟨s2, ha, he⟩, rfl⟩
            exact ⟨by unfold erE; rw [if_neg hdn, if_pos ho, q1], ddS s2, AftX.died ha hT, .inr (.inr (.inr (.inl ⟨hd, ho, q1, s2, he, rfl⟩)))⟩
        · refine (act_bad D s.unt s.acts s.room (usd s.nf) (lsd (fls s)) s.trn s.flt (.map (some s.M)) (.map (some s.L)) s.vC s.vLo _ W (h.disk0 hd) hu (by omega) (fau s) rfl q0 q1).mono ?_
          rintro e w9 ⟨rfl, hd4, g4⟩
          exact ⟨by unfold erE; rw [if_neg hdn, if_pos ho], acS s, (err_aft h hd u g4 hd4 (by omega)).x hT, .inr (.inr (.inr (.inr ⟨hd, ho, q0, q1, rfl⟩)))⟩
    · refine (act_own D s.unt s.acts s.room (usd s.nf) (lsd (fls s)) s.trn s.flt (.map (some s.M)) (.map (some s.L)) s.vC s.vLo _ _ W (h.disk0 hd) hu (by omega) ho).mono ?_
      rintro e w9 ⟨rfl, hd4, g4⟩
      exact ⟨by unfold erE; rw [if_neg hdn, if_neg ho], acS s, (err_aft h hd u g4 hd4 (by omega)).x hT, .inr (.inl ⟨hd, ho, rfl⟩)⟩
set_option maxRecDepth 100000 in
theorem actX_Names {B D T : Nat} {s : DD} (kd : Int) (nm to : ByteArray) (p : Int) (ds : List UInt8) (w W : World) (h : DOk W B D T s) (u : Up w W) (hu : s.unt ≤ 9223372036854775807) (hT : T + 3 ≤ 100000)
    (H : s.dead = false → ownE kd nm to p ds.length s = 0 → ∀ w4, DOk w4 B D (T + 1) (acS s) → Fr (fun k => k = D) W w4 → W.grownBy w4 (some D) → Calls Tryz.prog 49 #[pv D] w4 fun e w9 => e = .returned (.tuple #[]) ∧ ∃ s2, Aft w w9 B D T s s2 ∧ Eff kd nm to p ds (acS s) s2) :
    Calls Tryz.prog 45 #[pv D, .int .i64 (ownE kd nm to p ds.length s), .func (.func 49) #[pv D] #[]] W fun e w9 => e = .returned (.int .i64 (erE kd nm to p ds.length s)) ∧ ∃ s', AftX w w9 B D T s s' ∧ Stp kd nm to p ds s s' := by
  have hnum := h.num
  cases hd : s.dead with
  | true =>
    have hk : At W D 85 [.int .i64 (s.room : Int), .int .i64 (usd s.nf : Int), .bool true, .map (some s.M), .map (some s.L), s.vC, s.vLo, .int .i64 (lsd (fls s) : Int), .int .i64 (s.trn : Int), .int .i64 (s.acts : Int), .int .i64 (s.unt : Int), .int .i64 s.flt] := by
      have := h.disk
      unfold dcl at this
      rw [hd] at this
      exact this
    refine (act_dead D _ _ _ _ _ _ _ _ _ _ _ _ _ W hk).mono ?_
    rintro e w9 ⟨rfl, rfl⟩
    refine ⟨by unfold erE; rw [if_pos hd], s, ⟨h.more (by omega) hT, fun k hk => .inl hk, (Fr.refl _ w).up u⟩, .inl ⟨hd, rfl⟩⟩
  | false =>
    have hdn : ¬ s.dead = true := by rw [hd]; decide
    by_cases ho : ownE kd nm to p ds.length s = 0
    · rw [ho]
      by_cases q0 : fau s = 0
      · refine (act3_Names D s.unt s.acts s.room (usd s.nf) (lsd (fls s)) s.trn s.flt (.map (some s.M)) (.map (some s.L)) s.vC s.vLo  W (h.disk0 hd) hu (by omega) q0 (fun w9 => ∃ s2, Aft w w9 B D T s s2 ∧ Eff kd nm to p ds (acS s) s2) (fun w4 hd4 g4 => ?_)).mono ?_
        · obtain ⟨h4, f4⟩ := h.acs hd g4 hd4 (by omega)
          exact H hd ho w4 h4 f4 g4
        · rintro e w9 ⟨rfl, s2, ha, he⟩
          exact ⟨by unfold erE; rw [if_neg hdn, if_pos ho, q0], s2, ha.x hT, .inr (.inr (.inl ⟨hd, ho, q0, he⟩))⟩
      · by_cases q1 : fau s = 125
        · refine (act4_Names D s.unt s.acts s.room (usd s.nf) (lsd (fls s)) s.trn s.flt (.map (some s.M)) (.map (some s.L)) s.vC s.vLo  W (h.disk0 hd) hu (by omega) q1 (fun w9 => ∃ s2, Aft w w9 B D T s s2 ∧ Eff kd nm to p ds (acS s) s2) (fun w2 ⟨s2, ha, _⟩ => ⟨_, _, _, _, _, _, _, _, _, _, _, _, ha.1.disk⟩) (fun w4 hd4 g4 => ?_)).mono ?_
          · obtain ⟨h4, f4⟩ := h.acs hd g4 hd4 (by omega)
            exact H hd ho w4 h4 f4 g4
          · rintro e w9 ⟨rfl, w8, ⟨s2, ha, he⟩, rfl⟩
            exact ⟨by unfold erE; rw [if_neg hdn, if_pos ho, q1], ddS s2, AftX.died ha hT, .inr (.inr (.inr (.inl ⟨hd, ho, q1, s2, he, rfl⟩)))⟩
        · refine (act_bad D s.unt s.acts s.room (usd s.nf) (lsd (fls s)) s.trn s.flt (.map (some s.M)) (.map (some s.L)) s.vC s.vLo _ W (h.disk0 hd) hu (by omega) (fau s) rfl q0 q1).mono ?_
          rintro e w9 ⟨rfl, hd4, g4⟩
          exact ⟨by unfold erE; rw [if_neg hdn, if_pos ho], acS s, (err_aft h hd u g4 hd4 (by omega)).x hT, .inr (.inr (.inr (.inr ⟨hd, ho, q0, q1, rfl⟩)))⟩
    · refine (act_own D s.unt s.acts s.room (usd s.nf) (lsd (fls s)) s.trn s.flt (.map (some s.M)) (.map (some s.L)) s.vC s.vLo _ _ W (h.disk0 hd) hu (by omega) ho).mono ?_
      rintro e w9 ⟨rfl, hd4, g4⟩
      exact ⟨by unfold erE; rw [if_neg hdn, if_neg ho], acS s, (err_aft h hd u g4 hd4 (by omega)).x hT, .inr (.inl ⟨hd, ho, rfl⟩)⟩
end Go.Proofs.YtaibjeehjhlicaaGreatDoor
