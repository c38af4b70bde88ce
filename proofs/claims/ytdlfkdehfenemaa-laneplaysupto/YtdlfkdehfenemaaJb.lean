import Derived.Test.YtdlfkdehfenemaaJa
namespace Go.Proofs.Ytdlfkdehfenemaa
open Go.RowKit Go.Conc TextNum
set_option maxRecDepth 100000 in
theorem fits_walk (w : World) (k n : Int) : Calls Try.prog 49 #[.agg #[.int .i64 k, .int .i64 n]] w fun e w' => e = .returned (.bool (fok (k, n))) ∧ Up w w' := by
  have HU := Hid.of ((Up.refl w).alloc (.cells #[.int .i64 k, .int .i64 n] 97))
  have hA := at_new w 97 [.int .i64 k, .int .i64 n]
  have c0 := hA.cell (i := 0) rfl
  have c1 := hA.cell (i := 1) rfl
  clear hA
  by_cases h0 : k = 0
  · subst h0
    have HE := Hid.of (And.intro (show fok (0, n) = true from rfl) trivial)
    go_enter Try.func49, Try.ntmps49
    go_wp2
    go_ret
    rw [HE.out.1]
    exact ⟨rfl, HU.out⟩
  by_cases h1 : k = 1
  · subst h1
    have HE := Hid.of (And.intro (show fok (1, n) = true from rfl) trivial)
    go_enter Try.func49, Try.ntmps49
    go_wp2
    go_ret
    rw [HE.out.1]
    exact ⟨rfl, HU.out⟩
  by_cases h2 : k = 2
  · subst h2
    by_cases hn0 : 0 ≤ n
    · by_cases hn1 : n ≤ 1000
      · have HE := Hid.of (And.intro (show fok (2, n) = true by simp [fok, hn0, hn1]) trivial)
        go_enter Try.func49, Try.ntmps49
        go_wp2
        go_ret
        rw [HE.out.1]
        exact ⟨rfl, HU.out⟩
      · have HE := Hid.of (And.intro (show fok (2, n) = false by simp [fok, hn1]) trivial)
        go_enter Try.func49, Try.ntmps49
        go_wp2
        go_ret
        rw [HE.out.1]
        exact ⟨rfl, HU.out⟩
    · have HE := Hid.of (And.intro (show fok (2, n) = false by simp [fok, hn0]) trivial)
      go_enter Try.func49, Try.ntmps49
      go_wp2
      go_ret
      rw [HE.out.1]
      exact ⟨rfl, HU.out⟩
  by_cases h3 : k = 3
  · subst h3
    by_cases hn0 : 0 ≤ n
    · by_cases hn1 : n ≤ 1000
      · have HE := Hid.of (And.intro (show fok (3, n) = true by simp [fok, hn0, hn1]) trivial)
        go_enter Try.func49, Try.ntmps49
        go_wp2
        go_ret
        rw [HE.out.1]
        exact ⟨rfl, HU.out⟩
      · have HE := Hid.of (And.intro (show fok (3, n) = false by simp [fok, hn1]) trivial)
        go_enter Try.func49, Try.ntmps49
        go_wp2
        go_ret
        rw [HE.out.1]
        exact ⟨rfl, HU.out⟩
    · have HE := Hid.of (And.intro (show fok (3, n) = false by simp [fok, hn0]) trivial)
      go_enter Try.func49, Try.ntmps49
      go_wp2
      go_ret
      rw [HE.out.1]
      exact ⟨rfl, HU.out⟩
  by_cases h4 : k = 4
  · subst h4
    by_cases hn0 : 0 ≤ n
    · by_cases hn1 : n ≤ 1048576
      · have HE := Hid.of (And.intro (show fok (4, n) = true by simp [fok, hn0, hn1]) trivial)
        go_enter Try.func49, Try.ntmps49
        go_wp2
        go_ret
        rw [HE.out.1]
        exact ⟨rfl, HU.out⟩
      · have HE := Hid.of (And.intro (show fok (4, n) = false by simp [fok, hn1]) trivial)
        go_enter Try.func49, Try.ntmps49
        go_wp2
        go_ret
        rw [HE.out.1]
        exact ⟨rfl, HU.out⟩
    · have HE := Hid.of (And.intro (show fok (4, n) = false by simp [fok, hn0]) trivial)
      go_enter Try.func49, Try.ntmps49
      go_wp2
      go_ret
      rw [HE.out.1]
      exact ⟨rfl, HU.out⟩
  by_cases h5 : k = 5
  · subst h5
    by_cases hn0 : 0 ≤ n
    · by_cases hn1 : n ≤ 1048576
      · have HE := Hid.of (And.intro (show fok (5, n) = true by simp [fok, hn0, hn1]) trivial)
        go_enter Try.func49, Try.ntmps49
        go_wp2
        go_ret
        rw [HE.out.1]
        exact ⟨rfl, HU.out⟩
      · have HE := Hid.of (And.intro (show fok (5, n) = false by simp [fok, hn1]) trivial)
        go_enter Try.func49, Try.ntmps49
        go_wp2
        go_ret
        rw [HE.out.1]
        exact ⟨rfl, HU.out⟩
    · have HE := Hid.of (And.intro (show fok (5, n) = false by simp [fok, hn0]) trivial)
      go_enter Try.func49, Try.ntmps49
      go_wp2
      go_ret
      rw [HE.out.1]
      exact ⟨rfl, HU.out⟩
  have HE := Hid.of (And.intro (show fok (k, n) = false by simp [fok, h0, h1, h2, h3, h4, h5]) trivial)
  go_enter Try.func49, Try.ntmps49
  go_wp2
  go_ret
  rw [HE.out.1]
  exact ⟨rfl, HU.out⟩
/-- the document's net while it is made -/
structure RJ (w wr : World) (nb : Nat) (fv : Value) (fs : List (Int × Int)) : Prop where
  bx : At wr nb 114 [.int .i64 0, fv, .int .i64 0, .slice none 0 0, .slice none 0 0, .slice none 0 0]
  fr : wr.ownsRow w.heap.size 97 2 fv fs.length (fs.flatMap fc)
  up : Up w wr
theorem rnetZ : (Try.prog.info? 114).map (fun i => (i.zero, i.size)) = some (some (.agg #[.int .i64 0, .slice none 0 0, .int .i64 0, .slice none 0 0, .slice none 0 0, .slice none 0 0]), 6) := by kernel_rfl
set_option maxRecDepth 100000 in
set_option maxHeartbeats 4000000 in
theorem RNew_lanes (w : World) (z : Int) (v : Value) (hz : z < 1 ∨ 64 < z) : Calls Try.prog 33 #[.int .i64 z, v] w fun e w' => e = .returned (.tuple #[.pointer none, .int .i64 1]) ∧ w' = w := by
  by_cases h : z < 1
  · go_enter Try.func33, Try.ntmps33
    go_wp2
    go_ret2
    exact ⟨rfl, rfl⟩
  · have h2 : 64 < z := by omega
    go_enter Try.func33, Try.ntmps33
    go_wp2
    go_ret2
    exact ⟨rfl, rfl⟩
end Go.Proofs.Ytdlfkdehfenemaa
