import Derived.Test.YtpjfmkmgfjhnmaaWk
namespace Go.Proofs.Ytpjfmkmgfjhnmaa
open Go.RowKit Tlg
theorem WR.mono {w u w' : World} {n i : Nat} {s : Bool} {v : Value} (h : WR w w' n i s v) (k : Up u w) : WR u w' n i s v := by
  obtain ⟨L, k1, a, b, h1, h2, h3⟩ := h
  exact ⟨L, k1, a, b, h1, h2, h3.mono k.size⟩
theorem WR.up {w w' w2 : World} {n i : Nat} {s : Bool} {v : Value} (h : WR w w' n i s v) (k : Up w' w2) : WR w w2 n i s v := by
  obtain ⟨L, k1, a, b, h1, h2, h3⟩ := h
  exact ⟨L, k1, a, b, h1, h2, h3.up k⟩
/-- what the places' calls answer -/
def PR (w w' : World) (n i : Int) (s : Bool) (e : Ending) : Prop :=
  (win n i = true → ∃ v, e = .returned (.tuple #[v, .int .i64 0]) ∧ WR w w' n.toNat i.toNat s v) ∧ (win n i = false → e = .returned (.tuple #[.slice none 0 0, .int .i64 1]))
theorem win_iff {n i : Int} : win n i = true ↔ n ≤ 281474976710656 ∧ 0 ≤ i ∧ i < n := by unfold win; simp

set_option maxRecDepth 100000 in
theorem placesTo_walk (n i : Int) (s : Bool) (w : World) : Calls Try.prog 7 #[.int .i64 n, gl i s] w fun e w' => PR w w' n i s e ∧ Up w w' := by
  have HW := fun w => Hid.of (within_goal i n s w)
  rcases hh : win n i with _ | _
  · have HH := Hid.of (And.intro hh trivial)
    rw [hh] at HW
    clear hh
    go_enter Try.func7, Try.ntmps7
    go_wp2_with fail
    refine (HW _).out.mono ?_
    rintro e w1 ⟨rfl, u⟩
    dsimp only
    have HU1 := Hid.of (((Up.refl w).alloc _).trans u)
    clear u
    go_wp2
    go_ret2
    exact ⟨⟨fun h => (by rw [HH.out.1] at h; cases h), fun _ => rfl⟩, HU1.out⟩
  · have HH := Hid.of (And.intro hh trivial)
    obtain ⟨h1, h2, h3⟩ := win_iff.1 hh
    rw [hh] at HW
    clear hh
    obtain ⟨N, rfl⟩ : ∃ N : Nat, n = (N : Int) := ⟨n.toNat, by omega⟩
    obtain ⟨I, rfl⟩ : ∃ I : Nat, i = (I : Int) := ⟨i.toNat, by omega⟩
    have HK := fun w => Hid.of (walk_walk N I s (by omega) (by omega) w)
    clear h1 h2 h3
    go_enter Try.func7, Try.ntmps7
    go_wp2_with fail
    refine (HW _).out.mono ?_
    rintro e w1 ⟨rfl, u⟩
    dsimp only
    have c0 := u.cell (p := ⟨w.heap.size, 0, none⟩) (v := .int .i64 (I : Int)) (by simp)
    have c1 := u.cell (p := ⟨w.heap.size, 1, none⟩) (v := .bool s) (by simp)
    have HU1 := Hid.of (((Up.refl w).alloc _).trans u)
    clear u
    go_wp2_with fail
    refine (HK _).out.mono ?_
    rintro e w2 ⟨v2, rfl, r2, u2⟩
    dsimp only
    have H2 := Hid.of (And.intro (r2.mono HU1.out) (HU1.out.trans u2))
    clear u2 r2
    go_wp2
    go_ret2
    refine ⟨⟨fun _ => ⟨_, rfl, ?_⟩, fun h => (by rw [HH.out.1] at h; cases h)⟩, H2.out.2⟩
    rw [Int.toNat_natCast, Int.toNat_natCast]
    exact H2.out.1
theorem PR.mono {w u w' : World} {n i : Int} {s : Bool} {e : Ending} (h : PR w w' n i s e) (k : Up u w) : PR u w' n i s e := ⟨fun a => by obtain ⟨v, e1, r⟩ := h.1 a; exact ⟨v, e1, r.mono k⟩, h.2⟩

set_option maxRecDepth 100000 in
theorem RecordPlaces_walk (n i : Int) (w : World) : Calls Try.prog 4 #[.int .i64 n, .int .i64 i] w fun e w' => PR w w' n i false e ∧ Up w w' := by
  have HK := fun w => Hid.of (placesTo_walk n i false w)
  go_enter Try.func4, Try.ntmps4
  go_wp2_with fail
  refine (recordGoal_walk i _).mono ?_
  rintro e w1 ⟨rfl, u1⟩
  dsimp only
  have HU1 := Hid.of u1
  clear u1
  go_wp2_with fail
  refine (HK _).out.mono ?_
  rintro e w2 ⟨r2, u2⟩
  have H2 := Hid.of (And.intro (r2.mono HU1.out) (HU1.out.trans u2))
  rcases hh : win n i with _ | _
  · have e2 := r2.2 hh
    clear r2 u2 hh
    subst e2
    dsimp only
    go_wp2
    go_ret2
    exact H2.out
  · obtain ⟨v, e2, _⟩ := r2.1 hh
    clear r2 u2 hh
    subst e2
    dsimp only
    go_wp2
    go_ret2
    exact H2.out
set_option maxRecDepth 100000 in
theorem TreePlaces_walk (n m : Int) (w : World) : Calls Try.prog 6 #[.int .i64 n, .int .i64 m] w fun e w' => PR w w' n (tid m) true e ∧ Up w w' := by
  have HK := fun w => Hid.of (placesTo_walk n (tid m) true w)
  go_enter Try.func6, Try.ntmps6
  go_wp2_with fail
  refine (treeGoal_walk m _).mono ?_
  rintro e w1 ⟨rfl, u1⟩
  dsimp only
  have HU1 := Hid.of u1
  clear u1
  go_wp2_with fail
  refine (HK _).out.mono ?_
  rintro e w2 ⟨r2, u2⟩
  have H2 := Hid.of (And.intro (r2.mono HU1.out) (HU1.out.trans u2))
  rcases hh : win n (tid m) with _ | _
  · have e2 := r2.2 hh
    clear r2 u2 hh
    subst e2
    dsimp only
    go_wp2
    go_ret2
    exact H2.out
  · obtain ⟨v, e2, _⟩ := r2.1 hh
    clear r2 u2 hh
    subst e2
    dsimp only
    go_wp2
    go_ret2
    exact H2.out
end Go.Proofs.Ytpjfmkmgfjhnmaa
