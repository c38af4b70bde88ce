import Derived.Test.YtdlfkdehfenemaaAs
namespace Go.Proofs.Ytdlfkdehfenemaa
open Go.RowKit Go.Conc TextNum
set_option maxRecDepth 100000 in
theorem isNoFate_walk (w : World) (f : Int × Int) : Calls Try.prog 48 #[.agg #[.int .i64 f.1, .int .i64 f.2]] w fun e w' => e = .returned (.bool (!fok f)) ∧ Up w w' := by
  obtain ⟨a, b⟩ := f
  have HU := Hid.of ((Up.refl w).alloc (.cells #[.int .i64 a, .int .i64 b] 58))
  dsimp only
  generalize hq : (!fok (a, b)) = q
  have HQ := Hid.of (And.intro hq trivial)
  clear hq
  by_cases h0 : a = 0
  · subst h0
    go_enter Try.func48, Try.ntmps48
    go_wp2
    go_ret
    refine ⟨?_, HU.out⟩
    rw [← HQ.out.1]
    rfl
  by_cases h1 : a = 1
  · subst h1
    go_enter Try.func48, Try.ntmps48
    go_wp2
    go_ret
    refine ⟨?_, HU.out⟩
    rw [← HQ.out.1]
    rfl
  by_cases h2 : a = 2
  · subst h2
    by_cases hb : b < 0
    · go_enter Try.func48, Try.ntmps48
      go_wp2
      go_ret
      refine ⟨?_, HU.out⟩
      rw [← HQ.out.1]
      simp [fok]; omega
    · go_enter Try.func48, Try.ntmps48
      go_wp2
      go_ret
      refine ⟨?_, HU.out⟩
      rw [← HQ.out.1]
      have hb' : 0 ≤ b := by omega
      simp [fok, hb']
      rw [Bool.eq_iff_iff]
      simp
  by_cases h3 : a = 3
  · subst h3
    by_cases hb : b < 0
    · go_enter Try.func48, Try.ntmps48
      go_wp2
      go_ret
      refine ⟨?_, HU.out⟩
      rw [← HQ.out.1]
      simp [fok]; omega
    · go_enter Try.func48, Try.ntmps48
      go_wp2
      go_ret
      refine ⟨?_, HU.out⟩
      rw [← HQ.out.1]
      have hb' : 0 ≤ b := by omega
      simp [fok, hb']
      rw [Bool.eq_iff_iff]
      simp
  by_cases h4 : a = 4
  · subst h4
    by_cases hb : b < 0
    · go_enter Try.func48, Try.ntmps48
      go_wp2
      go_ret
      refine ⟨?_, HU.out⟩
      rw [← HQ.out.1]
      simp [fok]; omega
    · go_enter Try.func48, Try.ntmps48
      go_wp2
      go_ret
      refine ⟨?_, HU.out⟩
      rw [← HQ.out.1]
      have hb' : 0 ≤ b := by omega
      simp [fok, hb']
      rw [Bool.eq_iff_iff]
      simp
  by_cases h5 : a = 5
  · subst h5
    by_cases hb : b < 0
    · go_enter Try.func48, Try.ntmps48
      go_wp2
      go_ret
      refine ⟨?_, HU.out⟩
      rw [← HQ.out.1]
      simp [fok]; omega
    · go_enter Try.func48, Try.ntmps48
      go_wp2
      go_ret
      refine ⟨?_, HU.out⟩
      rw [← HQ.out.1]
      have hb' : 0 ≤ b := by omega
      simp [fok, hb']
      rw [Bool.eq_iff_iff]
      simp
  go_enter Try.func48, Try.ntmps48
  go_wp2
  go_ret
  refine ⟨?_, HU.out⟩
  rw [← HQ.out.1]
  simp [fok, h0, h1, h2, h3, h4, h5]
theorem Fts.up {w w' : World} {v : Value} {fs : List (Int × Int)} (h : Fts w v fs) (u : Up w w') : Fts w' v fs := (fr_of_up (fun _ => False) u).fts h (fun _ _ h => h)
theorem fcs_get {fs : List (Int × Int)} : ∀ {j : Nat} (hj : j < fs.length), (fs.flatMap fc)[j * 2]? = some (.int .i64 (fs[j]'hj).1) ∧ (fs.flatMap fc)[j * 2 + 1]? = some (.int .i64 (fs[j]'hj).2) := by
  induction fs with
  | nil => intro j hj; simp at hj
  | cons p r ih =>
    intro j hj
    cases j with
    | zero => exact ⟨rfl, rfl⟩
    | succ j =>
      have := ih (j := j) (by simpa using hj)
      rw [show (p :: r).flatMap fc = [.int .i64 p.1, .int .i64 p.2] ++ r.flatMap fc from rfl]
      rw [show (j + 1) * 2 = j * 2 + 2 by omega, show j * 2 + 2 + 1 = j * 2 + 1 + 2 by omega]
      simpa using this
abbrev fnV : Value := .func (.func 48) #[] #[]
set_option maxRecDepth 100000 in
theorem IndexFunc_walk (w : World) (v : Value) (fs : List (Int × Int)) (h : Fts w v fs) (hle : fs.length ≤ 4611686018427387904) :
    Calls Try.prog 64 #[v, fnV] w fun e w' => ∃ z : Int, e = .returned (.int .i64 z) ∧ decide (0 ≤ z) = fs.any (fun f => !fok f) ∧ Up w w' := by
  obtain ⟨a, c, rfl, h1, h2, h3, h4⟩ := id h
  have HF := Hid.of h
  clear h h3 h4
  go_enter Try.func64, Try.ntmps64
  go_wp2
  go_loopw [5, 8] (fun _ v8 wr => ∃ j : Nat, v8 = .int .i64 (j : Int) ∧ j ≤ fs.length ∧ Hid ((fs.take j).all fok = true ∧ Up w wr)) (fun _ v8 _ => fs.length - (intOf v8).toNat)
  case atStart => exact ⟨0, rfl, by omega, Hid.of ⟨rfl, Up.refl _⟩⟩
  case round =>
    obtain ⟨j, rfl, hj, hR⟩ := hrel
    by_cases hlt : j < fs.length
    · have hltz : (j : Int) < (fs.length : Int) := by omega
      have hcz : (fs.length : Int) ≤ (c : Int) := by omega
      obtain ⟨a', c', e, k1, k2, k3, k4⟩ := HF.out.up hR.out.2
      injection e with e1 _ e3
      subst e1 e3
      cases a with
      | none => have := (k3 rfl).1; subst this; simp at hlt
      | some ad =>
        obtain ⟨b, o, sp⟩ := ad
        obtain ⟨hsp, _, hcs⟩ := k4 _ rfl
        obtain rfl : sp = none := hsp
        obtain ⟨d0, d1⟩ := fcs_get hlt
        have x0 := hcs _ _ d0
        have x1 := hcs _ _ d1
        rw [Addr.add_lit] at x0 x1
        rw [← Nat.add_assoc] at x1
        obtain ⟨f, hf⟩ : ∃ f, fs[j] = f := ⟨_, rfl⟩
        rw [hf] at x0 x1
        have hjw : IntKind.i64.wrap ((j : Int) + 1) = (j : Int) + 1 := by rw [IntKind.wrap_i64]; omega
        have hW := isNoFate_walk wr f
        have HR := Hid.of hR.out
        have HFF := Hid.of hf
        clear hR k1 k2 k3 k4 hcs d0 d1
        go_wp2_with fail
        refine hW.mono ?_
        rintro e w2 ⟨rfl, u2⟩
        have HU2 := Hid.of (HR.out.2.trans u2)
        clear u2 hW
        dsimp only
        cases hb : fok f
        · go_wp2
          go_ret
          refine ⟨_, rfl, ?_, HU2.out⟩
          rw [show fs.any (fun f => !fok f) = true from List.any_eq_true.2 ⟨f, HFF.out ▸ List.getElem_mem hlt, by rw [hb]; rfl⟩]
          simp
        · have HR3 := Hid.of (show (fs.take (j + 1)).all fok = true ∧ Up w w2 by
            refine ⟨?_, HU2.out⟩
            rw [List.take_succ_eq_append_getElem hlt, List.all_append, HR.out.1, HFF.out]
            simp [hb])
          go_wp2
          go_roundw
          case rel => exact ⟨j + 1, by simp, by omega, HR3⟩
          case measure => simp [intOf]; omega
    · have hltz : ¬ ((j : Int) < (fs.length : Int)) := by omega
      obtain rfl : j = fs.length := by omega
      go_wp2
      go_ret
      refine ⟨_, rfl, ?_, hR.out.2⟩
      have := hR.out.1
      rw [List.take_length] at this
      have hx : fs.any (fun f => !fok f) = false := by
        rw [List.any_eq_false]
        intro f hf
        have := List.all_eq_true.1 this f hf
        simp [this]
      rw [hx]
      rfl
set_option maxRecDepth 100000 in
theorem ContainsFunc_walk (w : World) (v : Value) (fs : List (Int × Int)) (h : Fts w v fs) (hle : fs.length ≤ 4611686018427387904) :
    Calls Try.prog 47 #[v, fnV] w fun e w' => e = .returned (.bool (fs.any fun f => !fok f)) ∧ Up w w' := by
  have hI := IndexFunc_walk w v fs h hle
  clear h
  generalize fs.any (fun f => !fok f) = q at *
  go_enter Try.func47, Try.ntmps47
  go_wp2_with fail
  refine hI.mono ?_
  rintro e w1 ⟨z, rfl, hz, u⟩
  subst hz
  have HU := Hid.of u
  clear u
  dsimp only
  go_wp2
  go_ret
  exact ⟨rfl, HU.out⟩
def fateE (fs : List (Int × Int)) : Int := if 65536 < fs.length then 2 else if fs.any (fun f => !fok f) then 1 else 0
set_option maxRecDepth 100000 in
theorem fatesError_walk (w : World) (v : Value) (fs : List (Int × Int)) (h : Fts w v fs) (hle : fs.length ≤ 4611686018427387904) :
    Calls Try.prog 30 #[v] w fun e w' => e = .returned (.int .i64 (fateE fs)) ∧ Up w w' := by
  obtain ⟨a, c, rfl, h1, h2, h3, h4⟩ := id h
  have hC := ContainsFunc_walk w _ fs h hle
  clear h h3 h4
  by_cases hl : 65536 < fs.length
  · have hlz : (65536 : Int) < (fs.length : Int) := by omega
    have hE : fateE fs = 2 := by unfold fateE; rw [if_pos hl]
    rw [hE]
    go_enter Try.func30, Try.ntmps30
    go_wp2
    go_ret
    exact ⟨rfl, Up.refl _⟩
  · have hlz : ¬ ((65536 : Int) < (fs.length : Int)) := by omega
    cases hq : fs.any (fun f => !fok f)
    · have hE : fateE fs = 0 := by unfold fateE; rw [if_neg hl, hq]; rfl
      rw [hE]
      rw [hq] at hC
      clear hq hE
      go_enter Try.func30, Try.ntmps30
      go_wp2_with fail
      refine hC.mono ?_
      rintro e w1 ⟨rfl, u⟩
      dsimp only
      go_wp2
      go_ret
      exact ⟨rfl, u⟩
    · have hE : fateE fs = 1 := by unfold fateE; rw [if_neg hl, hq]; rfl
      rw [hE]
      rw [hq] at hC
      clear hq hE
      go_enter Try.func30, Try.ntmps30
      go_wp2_with fail
      refine hC.mono ?_
      rintro e w1 ⟨rfl, u⟩
      dsimp only
      go_wp2
      go_ret
      exact ⟨rfl, u⟩
end Go.Proofs.Ytdlfkdehfenemaa
