import Derived.Test.YtehnnlhoajdcaaaGreatDoorBa
import Derived.Lib.Bytealg
namespace Go.Proofs.YtehnnlhoajdcaaaGreatDoor
open Go.RowKit TextNum
def sv (a : Option Addr) (c lo : Nat) : Option Addr := if c = lo then a else a.map (·.add lo)
theorem exec_sub {o : Oper} {ρ : Operand → Value} {x y z : Operand} {w : World} {a : Option Addr} {n c lo hi : Nat} (h1 : lo ≤ hi) (h2 : hi ≤ c) (ho : o.op = .slice 22 x (some y) (some z) none) (hx : ρ x = .slice a n c) (hy : ρ y = .int .i64 (lo : Int)) (hz : ρ z = .int .i64 (hi : Int)) :
  (execOp ρ o).run Tryz.prog w = .ok (.value (.slice (sv a c lo) (hi - lo) (c - lo))) w := by
 unfold execOp
 simp only [ho, hx]
 have h3 : (lo : Int) ≤ (hi : Int) := by omega
 have h4 : (hi : Int) ≤ (c : Int) := by omega
 go_simp
 rfl
theorem exec_subhi {o : Oper} {ρ : Operand → Value} {x z : Operand} {w : World} {a : Option Addr} {n c hi : Nat} (h2 : hi ≤ c) (ho : o.op = .slice 22 x none (some z) none) (hx : ρ x = .slice a n c) (hz : ρ z = .int .i64 (hi : Int)) :
  (execOp ρ o).run Tryz.prog w = .ok (.value (.slice a hi c)) w := by
 unfold execOp
 simp only [ho, hx]
 have h4 : (hi : Int) ≤ (c : Int) := by omega
 go_simp
theorem exec_sublo {o : Oper} {ρ : Operand → Value} {x y : Operand} {w : World} {a : Option Addr} {n c lo : Nat} (h1 : lo ≤ n) (ho : o.op = .slice 22 x (some y) none none) (hx : ρ x = .slice a n c) (hy : ρ y = .int .i64 (lo : Int)) :
  (execOp ρ o).run Tryz.prog w = .ok (.value (.slice (sv a c lo) (n - lo) (c - lo))) w := by
 unfold execOp
 simp only [ho, hx]
 have h3 : (lo : Int) ≤ (n : Int) := by omega
 go_simp
 rfl
theorem Sb.sub {w : World} {a : Option Addr} {ds : List UInt8} {n c : Nat} (h : Sb w (.slice a n c) ds) (lo hi : Nat) (h1 : lo ≤ hi) (h2 : hi ≤ ds.length) : Sb w (.slice (sv a c lo) (hi - lo) (c - lo)) ((ds.take hi).drop lo) := by
 obtain ⟨a2, c2, e, k1, k2, k3, k4⟩ := h
 injection e with e1 e2 e3
 subst e1 e2 e3
 have hl : ((ds.take hi).drop lo).length = hi - lo := by rw [List.length_drop, List.length_take]; omega
 refine ⟨sv a c lo, c - lo, by rw [hl], by rw [hl]; omega, by omega, fun e => ?_, fun ad e => ?_⟩
 · have ha : a = none := by
    unfold sv at e
    split at e
    · exact e
    cases a with
    | none => rfl
    | some x => cases e
   obtain ⟨rfl, rfl⟩ := k3 ha
   simp
 by_cases he : (ds.take hi).drop lo = []
 · rw [he]
   exact ⟨fun h => absurd rfl h, fun j u hj => by simp [cb] at hj⟩
 have hlt : lo < hi := by
  rcases Nat.lt_or_ge lo hi with h | h
  · exact h
  exact absurd (List.eq_nil_of_length_eq_zero (by rw [hl]; omega)) he
 have hne : ds ≠ [] := fun e => by rw [e] at h2; simp at h2; omega
 have e2 : sv a c lo = a.map (·.add lo) := by unfold sv; rw [if_neg (by omega)]
 rw [e2] at e
 obtain ⟨a0, rfl, rfl⟩ := Option.map_eq_some_iff.1 e
 obtain ⟨s1, s2⟩ := k4 a0 rfl
 obtain ⟨b, o, sp⟩ := a0
 obtain rfl : sp = none := s1 hne
 rw [Addr.add_lit]
 refine ⟨fun _ => rfl, fun j u hj => ?_⟩
 rw [Addr.add_lit]
 have h3 := s2 (lo + j) u (by
  unfold cb at hj ⊢
  rw [List.map_drop, List.map_take, List.getElem?_drop, List.getElem?_take] at hj
  split at hj
  · exact hj
  cases hj)
 rw [Addr.add_lit] at h3
 rw [Nat.add_assoc]
 exact h3
theorem Sb.take {w : World} {a : Option Addr} {ds : List UInt8} {c : Nat} (h : Sb w (.slice a ds.length c) ds) (n : Nat) (hn : n ≤ ds.length) : Sb w (.slice a n c) (ds.take n) := by
 obtain ⟨a2, c2, e, h1, h2, h3, h4⟩ := h
 injection e with e1 _ e3
 subst e1 e3
 have hl : (ds.take n).length = n := by rw [List.length_take]; omega
 refine ⟨a, c, by rw [hl], by rw [hl]; omega, h2, fun e => ?_, fun ad e => ⟨fun hne => (h4 ad e).1 (fun e2 => hne (by rw [e2]; simp)), fun j u hj => (h4 ad e).2 j u ?_⟩⟩
 · have := h3 e
   rw [this.1]
   exact ⟨by simp, this.2⟩
 unfold cb at hj ⊢
 rw [List.map_take] at hj
 have hjn : j < n := by
  have := (List.getElem?_eq_some_iff.1 hj).1
  rw [List.length_take] at this
  omega
 rw [List.getElem?_take, if_pos hjn] at hj
 exact hj
theorem Sb.len {w : World} {a : Option Addr} {ds : List UInt8} {n c : Nat} (h : Sb w (.slice a n c) ds) : n = ds.length ∧ n ≤ c ∧ c ≤ maxLen := by
 obtain ⟨a2, c2, e, k1, k2, k3, k4⟩ := h
 injection e with e1 e2 e3
 subst e1 e2 e3
 exact ⟨rfl, k1, k2⟩
theorem Sb.get {w : World} {a : Option Addr} {ds : List UInt8} {n c : Nat} (h : Sb w (.slice a n c) ds) {j : Nat} (hj : j < ds.length) : ∃ b o, a = some ⟨b, o, none⟩ ∧ w.cell? ⟨b, o + j, none⟩ = some (vb ds[j]) := by
 obtain ⟨a2, c2, e, k1, k2, k3, k4⟩ := h
 injection e with e1 e2 e3
 subst e1 e2 e3
 have hne : ds ≠ [] := fun e => by rw [e] at hj; simp at hj
 cases a with
 | none => exact absurd (k3 rfl).1 hne
 | some ad =>
  obtain ⟨s1, s2⟩ := k4 ad rfl
  obtain ⟨b, o, sp⟩ := ad
  obtain rfl : sp = none := s1 hne
  refine ⟨b, o, rfl, ?_⟩
  have := s2 j _ (cb_get hj)
  rwa [Addr.add_lit] at this
end Go.Proofs.YtehnnlhoajdcaaaGreatDoor
