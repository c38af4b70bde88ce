import Derived.Test.YtpjfmkmgfjhnmaaOz
import Derived.Test.YtpjfmkmgfjhnmaaSr
namespace Go.Proofs.Ytpjfmkmgfjhnmaa
open Go.RowKit Go.Sort
/-- a slice as three numbers -/
abbrev SlT := Option Addr × Nat × Nat
def encT (x : SlT) : Value := .slice x.1 x.2.1 x.2.2
theorem encT_one : OneCell encT := fun _ => rfl
/-- what a block holds, it may be asked for -/
theorem holds_own {w : World} {B g cap : Nat} {e : TypeId} {ss : List SlT} (h : w.ownsRow B e 1 (.slice (some ⟨g, 0, none⟩) ss.length cap) ss.length (ss.map encT)) {cur : Array Value} (hb : w.heap[g]? = some (.cells cur e (0, 0))) : Holds encT w g 0 ss.toArray := by
  intro j hj
  have hjs : j < ss.length := by simpa using hj
  have hc := World.ownsRow.cells h (g := g) rfl j (encT ss[j]) (by simp [hjs])
  rw [add_plain] at hc
  refine ⟨?_, by simp [World.frozen?, hb]⟩
  rw [hc, getElem!_pos ss.toArray j hj]
  simp
/-- and where it holds a list, it is that list's row -/
theorem own_holds {w : World} {B g cap : Nat} {e : TypeId} {ss : List SlT} {cur : Array Value} (hb : w.heap[g]? = some (.cells cur e (0, 0))) (hH : Holds encT w g 0 ss.toArray) (hB : B ≤ g) (h1 : ss.length ≤ cap) (h2 : cap ≤ maxLen) (h3 : cur.size = cap * 1) : w.ownsRow B e 1 (.slice (some ⟨g, 0, none⟩) ss.length cap) ss.length (ss.map encT) := by
  refine ⟨by simp, .inr ⟨g, cap, cur, rfl, hB, hb, h1, h2, h3, ?_⟩⟩
  rw [Nat.mul_one]
  apply List.ext_getElem
  · have e1 : cur.toList.length = cur.size := rfl
    rw [List.length_take, List.length_map, e1]
    omega
  · intro j hj1 hj2
    have hjs : j < ss.length := by simpa using hj2
    have hc := (hH j (by simpa using hjs)).1
    rw [Nat.zero_add, getElem!_pos ss.toArray j (by simpa using hjs)] at hc
    simp only [World.cell?, hb] at hc
    have hjc : j < cur.size := by omega
    simp [hjc] at hc
    simp [hc]
/-- the row's block behind the call -/
theorem block_put {w : World} {g n : Nat} {cur : Array Value} {e : TypeId} (d : Array SlT) (hb : w.heap[g]? = some (.cells cur e (0, 0))) : ∃ cur' : Array Value, (putRow encT (Sort.ahead w n) g 0 d).heap[g]? = some (.cells cur' e (0, 0)) ∧ cur'.size = cur.size := by
  refine ⟨putCells encT 0 d cur, ?_, by simp [putCells]⟩
  show (w.heap.modify g (onCells (putCells encT 0 d)))[g]? = _
  rw [Array.getElem?_modify, if_pos rfl, hb]
  rfl
theorem grown_put {w : World} {g n : Nat} (d : Array SlT) : w.grownBy (putRow encT (Sort.ahead w n) g 0 d) (some g) := by
  constructor
  · rfl
  · rfl
  · rfl
  · show w.heap.size ≤ (w.heap.modify g _).size
    simp
  · intro k _ hk
    show (w.heap.modify g _)[k]? = _
    rw [Array.getElem?_modify, if_neg (fun e => hk (by rw [e]))]
theorem Reverse_nil (a : Option Addr) (cap : Nat) (w : World) : Calls Try.prog 18 #[.slice a 0 cap] w fun e w' => e = .returned (.tuple #[]) ∧ w' = w := AnyE.slices_Reverse_empty Try.lays35 a cap w
/-- the cells of a list of lists are slices -/
theorem slices_of (vs : List Value) (h : ∀ j, j < vs.length → ∃ x : SlT, vs[j]? = some (encT x)) : ∃ ss : List SlT, vs = ss.map encT := by
  induction vs with
  | nil => exact ⟨[], rfl⟩
  | cons v r ih =>
    obtain ⟨ss, e⟩ := ih (fun j hj => by have := h (j + 1) (by simp; omega); simpa using this)
    obtain ⟨x, hx⟩ := h 0 (by simp)
    simp only [List.getElem?_cons_zero, Option.some.injEq] at hx
    exact ⟨x :: ss, by rw [e, hx]; rfl⟩
/-- slices.Reverse on a list of lists of one's own -/
theorem Reverse_walk (w : World) (B : Nat) (v : Value) (L : List (List Nat)) (h : LL w B v L) (hn : L.length ≤ 1000000) (hB : B ≤ w.heap.size) :
    Calls Try.prog 18 #[v] w fun e w' => e = .returned (.tuple #[]) ∧ LL w' B v L.reverse ∧ Below B w w' ∧ Kt 26 w w' := by
  obtain ⟨vs, h1, h2⟩ := h
  have hvl : vs.length = L.length := by have := h1.1; omega
  rcases h1.2 with ⟨rfl, e⟩ | ⟨g, cap, cur, rfl, hbase, hb, q1, q2, q3, q4⟩
  · obtain rfl : L = [] := List.eq_nil_of_length_eq_zero e
    refine (Reverse_nil none 0 w).mono ?_
    rintro e w' ⟨rfl, rfl⟩
    exact ⟨rfl, lL_nil _ _, Below.refl _ _, Kt.refl _ _⟩
  · obtain ⟨ss, hss⟩ := slices_of vs (fun j hj => by
      obtain ⟨u, hu, ou⟩ := h2 j L[j] (List.getElem?_eq_getElem (by omega))
      obtain ⟨a, c, rfl⟩ := ou.len
      exact ⟨(a, _, c), hu⟩)
    have hsl : ss.length = L.length := by rw [← hvl, hss]; simp
    have hrow : w.ownsRow B 26 1 (.slice (some ⟨g, 0, none⟩) ss.length cap) ss.length (ss.map encT) := by rw [hsl, ← hss]; exact h1
    have hH := holds_own hrow hb
    have hc := AnyE.slices_Reverse Try.lays35 encT encT_one g 0 cap ss w hH (by omega)
    rw [hsl] at hc
    refine hc.mono ?_
    rintro e w' ⟨rfl, n, rfl⟩
    have hg := grown_put (w := w) (g := g) (n := n) ss.reverse.toArray
    have hk : Kt 26 w (putRow encT (Sort.ahead w n) g 0 ss.reverse.toArray) := Kt.grown h1 hg
    refine ⟨rfl, ⟨ss.reverse.map encT, ?_, ?_⟩, (Below.refl B w).grown hg hB (fun k hk => by cases hk; exact hbase), hk⟩
    · obtain ⟨cur', hb', hs'⟩ := block_put (n := n) ss.reverse.toArray hb
      have := own_holds (B := B) (cap := cap) hb' (holds_putRow encT (Sort.ahead w n) g 0 ss.toArray ss.reverse.toArray (holds_ahead encT w n g 0 _ hH) (by simp)) hbase (by simp; omega) q2 (by rw [hs', q3])
      rw [List.length_reverse, hsl] at this
      rw [List.length_reverse]
      exact this
    · intro j l hl
      have hj : j < L.length := by
        have := (List.getElem?_eq_some_iff.1 hl).1
        simpa using this
      rw [List.getElem?_reverse hj] at hl
      obtain ⟨u, hu, ou⟩ := h2 _ l hl
      refine ⟨u, ?_, ou.kt hk (by decide)⟩
      rw [List.map_reverse, List.getElem?_reverse (by simp; omega), ← hss, hvl]
      exact hu
end Go.Proofs.Ytpjfmkmgfjhnmaa
