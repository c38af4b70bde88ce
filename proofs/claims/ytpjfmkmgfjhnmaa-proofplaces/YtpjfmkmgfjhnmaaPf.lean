import Derived.Test.YtpjfmkmgfjhnmaaCv0
import Derived.Test.YtpjfmkmgfjhnmaaCg
namespace Go.Proofs.Ytpjfmkmgfjhnmaa
open Go.RowKit Tlg
theorem rev_perm (L : List (List Nat)) : L.reverse.Perm L := List.reverse_perm L
/-- what a record's places are -/
theorem rec_fin {w w' : World} {n i : Nat} {v : Value} (h : WR w w' n i false v) : ∃ L, CG w' w.heap.size v L ∧ Cov L [(i, i + 1)] 0 n 0 := by
  obtain ⟨L, k, a, b, h1, h2, h3⟩ := h
  rw [Bool.false_and, if_neg (by decide), List.append_nil] at h3
  refine ⟨L.reverse, ⟨h3, ?_, ?_⟩, (cov_record h1 h2).perm (rev_perm L)⟩
  · rw [List.length_reverse]
    have := h1.dp.2
    omega
  · intro l hl
    exact h1.sm l (List.mem_reverse.1 hl)
/-- from where a tree's places go -/
def low (m n : Nat) : Nat := if (wh m || m == n) = true then m else 0
theorem tree_fin {w w' : World} {n i : Nat} {v : Value} (hn : n ≤ 281474976710656) (h : WR w w' n i true v) : ∃ L, CG w' w.heap.size v L ∧ Cov L [] (low (i + 1) n) n (i + 1) := by
  obtain ⟨L, k, a, b, h1, h2, h3⟩ := h
  obtain ⟨p1, p2⟩ := cov_tree h1 h2 hn
  have hlen := h1.dp.2
  have hsm : ∀ l ∈ L ++ [pkr a b], l.length ≤ 49 ∧ ∀ c ∈ l, c < 562949953421311 := by
    intro l hl
    rcases List.mem_append.1 hl with hl | hl
    · exact h1.sm l hl
    · rw [List.mem_singleton] at hl
      subst hl
      obtain ⟨_, q2, q3⟩ := pkr_spec h1.rg (Nat.le_trans h1.le hn)
      exact ⟨q3, q2⟩
  rcases Nat.eq_zero_or_pos a with ha | ha
  · obtain ⟨c1, c2⟩ := p2 ha
    rw [ha, Bool.true_and, if_neg (by decide), List.append_nil] at h3
    have hl : low (i + 1) n = i + 1 := by
      unfold low
      rw [if_pos]
      rcases c2 with c2 | c2
      · rw [wh_iff.2 c2]; rfl
      · rw [c2]; simp
    rw [hl]
    refine ⟨L.reverse, ⟨h3, by rw [List.length_reverse]; omega, fun l hl => h1.sm l (List.mem_reverse.1 hl)⟩, c1.perm (rev_perm L)⟩
  · obtain ⟨c1, c2⟩ := p1 ha
    rw [Bool.true_and, if_pos (decide_eq_true ha)] at h3
    have hl : low (i + 1) n = 0 := by
      unfold low
      rw [if_neg]
      intro h
      apply c2
      rcases Bool.or_eq_true_iff.1 h with h | h
      · exact .inl (wh_iff.1 h)
      · exact .inr (by simpa using h)
    rw [hl]
    refine ⟨(L ++ [pkr a b]).reverse, ⟨h3, by rw [List.length_reverse, List.length_append]; simp; omega, fun l hl => hsm l (List.mem_reverse.1 hl)⟩, c1.perm (rev_perm _)⟩
/-- the places of record 0 among two -/
theorem two_fin {w w' : World} {v : Value} (h : WR w w' 2 0 false v) : ∃ g c g2 c2, v = .slice (some ⟨g, 0, none⟩) 1 c ∧ w'.cell? ⟨g, 0, none⟩ = some (.slice (some ⟨g2, 0, none⟩) 1 c2) ∧ w'.cell? ⟨g2, 0, none⟩ = some (.int .i64 1) := by
  obtain ⟨L, k, a, b, h1, h2, h3⟩ := h
  rw [Bool.false_and, if_neg (by decide), List.append_nil] at h3
  have hw := h1.wy
  rw [way_done h2, List.append_nil] at hw
  have hc : cut 0 2 = 1 := by
    unfold cut lft
    rw [show (2 : Nat) - 0 - 1 = 2 ^ 0 from rfl, lg_pow]
  have hp : pkr 1 2 = [1] := by
    rw [pkr_wh (by rw [show (2 : Nat) - 1 = 2 ^ 0 from rfl]; unfold Wh; rw [lg_pow])]
    unfold pl
    rw [show (2 : Nat) - 1 = 2 ^ 0 from rfl, lg_pow, show 1 / 2 ^ 0 = 1 from rfl, plc_zero, lay_step, show 1 / 2 = 0 from rfl, lay_zero]
  have hd : ¬ Dn false 0 0 2 := by unfold Dn dn; simp
  have hd1 : Dn false 0 0 1 := by unfold Dn dn; simp
  rw [way_left (k := 47) hd (by rw [hc]; decide), hc, hp, way_done hd1] at hw
  subst hw
  have h4 : LL w' w.heap.size v [[1]] := h3
  obtain ⟨g, c, a2, c2, e1, e2, e3⟩ := h4.get (j := 0) (by decide)
  have e3' : OwnL w' w.heap.size (.slice a2 1 c2) [1] := e3
  obtain ⟨g2, c3, f1, _, _, f4⟩ := e3'.cells (by simp)
  injection f1 with f1 _ f3
  subst f1 f3
  exact ⟨g, c, g2, c2, e1, e2, f4 0 (by decide)⟩
theorem tid_win {n m : Int} (h0 : -9223372036854775808 ≤ m) (h1 : m ≤ 9223372036854775807) : win n (tid m) = true ↔ n ≤ 281474976710656 ∧ 1 ≤ m ∧ m ≤ n := by
  rw [win_iff]
  unfold tid wrap64
  omega
theorem tid_nat {m : Nat} (h : 1 ≤ m) (h1 : m ≤ 281474976710656) : tid (m : Int) = ((m - 1 : Nat) : Int) := by
  unfold tid wrap64
  omega
end Go.Proofs.Ytpjfmkmgfjhnmaa
