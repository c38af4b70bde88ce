import Derived.Test.YtpjfmkmgfjhnmaaOz
import Derived.Shelf.RegionOpenPlain
import Derived.Deep.LoopGhost
import Derived.Lib.Walk
import Derived.Sort.WalkB12
import Derived.Lib.SlicesMore
namespace Go.Proofs.Ytpjfmkmgfjhnmaa
open Go.RowKit Go.Lib Go.Sort
abbrev SlT := Option Addr × Nat × Nat
def encT (x : SlT) : Value := .slice x.1 x.2.1 x.2.2
set_option maxHeartbeats 1600000 in
set_option maxRecDepth 1000000 in
theorem Reverse_arr (blk off cap : Nat) (d : Array SlT) (w : World) (hH : Holds encT w blk off d) (hsz : d.size ≤ 9223372036854775807) :
    Calls Try.prog 18 #[.slice (some ⟨blk, off, none⟩) d.size cap] w fun e w' => e = .returned (.tuple #[]) ∧ ∃ n, w' = putRow encT (Sort.ahead w n) blk off d.reverse := by
  go_enter Try.func18, Try.ntmps18
  go_wp2
  go_loopg [2, 3] d.size (fun k s2 s3 wr => ∃ (i jn : Nat) (jz : Int) (dk : Array SlT) (n : Nat), s2 = .int .i64 i ∧ s3 = .int .i64 jz ∧ ((i : Int) < jz → jz = jn ∧ jn < d.size) ∧ (¬ (i : Int) < jz → ¬ i < jn) ∧ jn - i ≤ k ∧
    dk.size = d.size ∧ wr = putRow encT (Sort.ahead w n) blk off dk ∧ reverseLoop i jn dk = reverseLoop 0 (d.size - 1) d)
  case atStart => exact ⟨0, d.size - 1, (d.size : Int) - 1, d, 0, rfl, rfl, fun h => ⟨by omega, by omega⟩, fun h => by omega, by omega, rfl, (putRow_self encT w blk off d hH).symm, rfl⟩
  case round =>
    obtain ⟨i, jn, jz, dk, n, rfl, rfl, h1, h2, hk, hds, hwr, heq⟩ := hrel
    by_cases hlt : (i : Int) < jz
    · obtain ⟨rfl, hjn⟩ := h1 hlt
      have hij : i < jn := by omega
      have hHk : Holds encT wr blk off dk := by rw [hwr]; exact holds_putRow encT _ blk off d dk (holds_ahead encT w n blk off d hH) hds
      obtain ⟨ci, fi⟩ := hHk i (by omega)
      obtain ⟨cj, fj⟩ := hHk jn (by omega)
      have A : Aside (wr = putRow encT (Sort.ahead w n) blk off dk) := hwr
      unfold encT at ci cj
      clear hwr hHk hH h1 h2
      go_wp2_with fail
      go_region
      all_goals go_wp2
      go_roundg (jn - 1 - (i + 1))
      case measure => omega
      case rel =>
        rw [reverseLoop, if_pos hij] at heq
        exact ⟨i + 1, jn - 1, (jn : Int) - 1, swp dk i jn, n + 1, by simp, rfl, fun h => ⟨by omega, by omega⟩, fun h => by omega, Nat.le_refl _, by rw [size_swp]; exact hds,
          swap_world encT (by omega) (by omega) A.out (by simp [encT, getElem!_pos, show jn < dk.size by omega]) (by simp [encT, getElem!_pos, show i < dk.size by omega]), heq⟩
    · have hnot := h2 hlt
      go_wp2
      go_end0
      refine ⟨rfl, n, ?_⟩
      rw [reverseLoop, if_neg hnot] at heq
      rw [← Lib.reverseLoop_reverse, ← heq]
set_option maxHeartbeats 1000000 in
theorem Reverse_nil (a : Option Addr) (cap : Nat) (w : World) : Calls Try.prog 18 #[.slice a 0 cap] w fun e w' => e = .returned (.tuple #[]) ∧ w' = w := by
  go_enter Try.func18, Try.ntmps18
  go_wp2
  go_loopg [2, 3] 0 (fun _ s2 s3 wr => s2 = .int .i64 0 ∧ s3 = .int .i64 (-1) ∧ wr = w)
  case atStart => exact ⟨rfl, rfl, rfl⟩
  case round =>
    obtain ⟨rfl, rfl, rfl⟩ := hrel
    go_wp2
    go_end0
    exact ⟨rfl, rfl⟩
theorem holds_T {w : World} {g : Nat} {cur : Array Value} {e : TypeId} {ss : List SlT} (hb : w.heap[g]? = some (.cells cur e (0, 0))) (ht : cur.toList.take ss.length = ss.map encT) : Holds encT w g 0 ss.toArray := by
  intro j hj
  have hj' : j < ss.length := by simpa using hj
  refine ⟨?_, by simp [World.frozen?, hb]⟩
  have h1 : (cur.toList.take ss.length)[j]? = (ss.map encT)[j]? := by rw [ht]
  rw [List.getElem?_take_of_lt hj'] at h1
  simp only [World.cell?, hb, Nat.zero_add]
  simp only [Option.isSome_none, Bool.false_eq_true, if_false]
  rw [← Array.getElem?_toList, h1]
  simp [hj']
theorem heap_T {w : World} {g n : Nat} {cur : Array Value} {e : TypeId} {fr : Nat × Nat} (d : Array SlT) (hb : w.heap[g]? = some (.cells cur e fr)) : (putRow encT (Sort.ahead w n) g 0 d).heap[g]? = some (.cells (putCells encT 0 d cur) e fr) := by
  simp [putRow, mapBlock, Sort.ahead, Array.getElem?_modify, hb, onCells]
theorem grownBy_T {w : World} {g n : Nat} (d : Array SlT) : w.grownBy (putRow encT (Sort.ahead w n) g 0 d) (some g) := by
  refine ⟨rfl, rfl, rfl, by simp, fun k hk hne => ?_⟩
  have : g ≠ k := fun e => hne (by rw [e])
  simp [putRow, mapBlock, Sort.ahead, Array.getElem?_modify, this]
theorem take_T (cur : Array Value) (ts : List SlT) (h : ts.length ≤ cur.size) : (putCells encT 0 ts.toArray cur).toList.take ts.length = ts.map encT := by
  apply List.ext_getElem?
  intro j
  by_cases hj : j < ts.length
  · rw [List.getElem?_take_of_lt hj, Array.getElem?_toList]
    simp [putCells, hj, show j < cur.size by omega]
  · rw [List.getElem?_take_eq_none (by omega), List.getElem?_eq_none (by simp; omega)]
theorem ownsRow_T {w : World} {base g cap n : Nat} {e : TypeId} {cur : Array Value} {ss ts : List SlT} (hl : ts.length = ss.length) (hbase : base ≤ g) (hb : w.heap[g]? = some (.cells cur e (0, 0)))
    (h1 : ss.length ≤ cap) (h2 : cap ≤ maxLen) (h3 : cur.size = cap * 1) :
    (putRow encT (Sort.ahead w n) g 0 ts.toArray).ownsRow base e 1 (.slice (some ⟨g, 0, none⟩) ss.length cap) ss.length (ts.map encT) :=
  ⟨by simp [hl], .inr ⟨g, cap, _, rfl, hbase, heap_T _ hb, h1, h2, by simp [putCells, h3], by rw [Nat.mul_one, ← hl]; exact take_T cur ts (by omega)⟩⟩
/-- the cells of a list of lists are slices -/
theorem slices_of (vs : List Value) (h : ∀ j, j < vs.length → ∃ x : SlT, vs[j]? = some (encT x)) : ∃ ss : List SlT, vs = ss.map encT := by
  induction vs with
  | nil => exact ⟨[], rfl⟩
  | cons v r ih =>
    obtain ⟨ss, e⟩ := ih (fun j hj => by have := h (j + 1) (by simp; omega); simpa using this)
    obtain ⟨x, hx⟩ := h 0 (by simp)
    simp only [List.getElem?_cons_zero, Option.some.injEq] at hx
    exact ⟨x :: ss, by rw [e, hx]; rfl⟩
/-- slices.Reverse on a list of lists of one's own -/
theorem Reverse_walk (w : World) (B : Nat) (v : Value) (L : List (List Nat)) (h : LL w B v L) (hn : L.length ≤ 1000000) (hB : B ≤ w.heap.size) :
    Calls Try.prog 18 #[v] w fun e w' => e = .returned (.tuple #[]) ∧ LL w' B v L.reverse ∧ Below B w w' ∧ Kt 26 w w' := by
  obtain ⟨vs, h1, h2⟩ := h
  have hvl : vs.length = L.length := by have := h1.1; omega
  rcases h1.2 with ⟨rfl, e⟩ | ⟨g, cap, cur, rfl, hbase, hb, q1, q2, q3, q4⟩
  · obtain rfl : L = [] := List.eq_nil_of_length_eq_zero e
    refine (Reverse_nil none 0 w).mono ?_
    rintro e w' ⟨rfl, rfl⟩
    exact ⟨rfl, lL_nil _ _, Below.refl _ _, Kt.refl _ _⟩
  · obtain ⟨ss, hss⟩ := slices_of vs (fun j hj => by
      obtain ⟨u, hu, ou⟩ := h2 j L[j] (List.getElem?_eq_getElem (by omega))
      obtain ⟨a, c, rfl⟩ := ou.len
      exact ⟨(a, _, c), hu⟩)
    have hsl : ss.length = L.length := by rw [← hvl, hss]; simp
    rw [Nat.mul_one, hss, ← hsl] at q4
    have hH := holds_T hb q4
    have hc := Reverse_arr g 0 cap ss.toArray w hH (by simp; omega)
    simp only [List.size_toArray, hsl] at hc
    refine hc.mono ?_
    rintro e w' ⟨rfl, n, rfl⟩
    rw [List.reverse_toArray]
    have hg := grownBy_T (w := w) (g := g) (n := n) ss.reverse.toArray
    have hk : Kt 26 w (putRow encT (Sort.ahead w n) g 0 ss.reverse.toArray) := Kt.grown h1 hg
    refine ⟨rfl, ⟨ss.reverse.map encT, ?_, ?_⟩, (Below.refl B w).grown hg hB (fun k hk => by cases hk; exact hbase), hk⟩
    · have := ownsRow_T (n := n) (ss := ss) (ts := ss.reverse) (by simp) hbase hb (by omega) q2 q3
      rw [hsl] at this
      rw [List.length_reverse]
      exact this
    · intro j l hl
      have hj : j < L.length := by
        have := (List.getElem?_eq_some_iff.1 hl).1
        simpa using this
      rw [List.getElem?_reverse hj] at hl
      obtain ⟨u, hu, ou⟩ := h2 _ l hl
      refine ⟨u, ?_, ou.kt hk (by decide)⟩
      rw [List.map_reverse, List.getElem?_reverse (by simp; omega), ← hss, hvl]
      exact hu
end Go.Proofs.Ytpjfmkmgfjhnmaa
