import Derived.Test.YtepakbghhnkcfaaDoorHg
namespace Go.Proofs.YtepakbghhnkcfaaDoor
open Go.RowKit Go.Shelf TextNum ModNum
theorem Sb.take {w : World} {a : Option Addr} {ds : List UInt8} {c : Nat} (h : Sb w (.slice a ds.length c) ds) (n : Nat) (hn : n ≤ ds.length) : Sb w (.slice a n c) (ds.take n) := by
  obtain ⟨a2, c2, e, h1, h2, h3, h4⟩ := h
  injection e with e1 _ e3
  subst e1 e3
  have hl : (ds.take n).length = n := by rw [List.length_take]; omega
  refine ⟨a, c, by rw [hl], by rw [hl]; omega, h2, fun e => ?_, fun ad e => ⟨fun hne => (h4 ad e).1 (fun e2 => hne (by rw [e2]; simp)), fun j u hj => (h4 ad e).2 j u ?_⟩⟩
  · have := h3 e
    rw [this.1]
    exact ⟨by simp, this.2⟩
  · unfold cb at hj ⊢
    rw [List.map_take] at hj
    have hjn : j < n := by
      have := (List.getElem?_eq_some_iff.1 hj).1
      rw [List.length_take] at this
      omega
    rw [List.getElem?_take, if_pos hjn] at hj
    exact hj
set_option maxRecDepth 100000 in
set_option maxHeartbeats 1000000 in
/-- the first n bytes of a loose write once more -/
theorem write1_part (B : Nat) (vo vk : Value) (xs ds : List UInt8) (p ba bk n : Nat) (w : World) (ho : Ow w B vo xs) (hd : Sb w vk ds) (hn : n ≤ ds.length) (hne : vk.ownBlock = none ∨ vk.ownBlock ≠ vo.ownBlock)
    (hca : w.cell? ⟨ba, 0, none⟩ = some (.int .i64 (p : Int))) (hck : w.cell? ⟨bk, 0, none⟩ = some vk)
    (hp : p ≤ 1099511627776) (hxs : xs.length ≤ 35184372088832) (hds : ds.length ≤ 35184372088832) (hB : B ≤ w.heap.size) :
    Calls Tryd.prog 56 #[vo, .int .i64 (n : Int), pv ba, pv bk] w fun e w' => ∃ v', e = .returned v' ∧ Ow w' B v' (wr xs p (ds.take n)) ∧ w.grownBy w' vo.ownBlock ∧ Frs w vo v' := by
  obtain ⟨a, c, rfl, h1, h2, h3, h4⟩ := hd
  have hS : Sb w (.slice a ds.length c) ds := ⟨a, c, rfl, h1, h2, h3, h4⟩
  have HC := Hid.of (written_walk B vo (.slice a n c) xs (ds.take n) p w.drew ho (hS.take n hn) (by cases a <;> exact hne) hp hxs (by rw [List.length_take]; omega) hB)
  have q1 : (n : Int) ≤ (c : Int) := by omega
  clear ho h4 hne hxs hS
  go_enter Tryd.func56, Tryd.ntmps56
  go_wp2
  go_region_with (go_at_call 57; refine HC.out.mono ?_; rintro e w1 ⟨v1, rfl, o1, g1, f1⟩; have HO1 := Hid.of o1; have HG1 := Hid.of (grownBy_undrew g1); have HF1 := Hid.of (show Frs w vo v1 from f1); clear o1 g1 f1)
  all_goals go_wp2
  all_goals go_ret
  all_goals exact ⟨_, rfl, HO1.out, HG1.out, HF1.out⟩
/-- what leftFiles has met: names with their files -/
abbrev LG : Type := List (List UInt8 × FL)
/-- a write that is left: whose, and which -/
structure WL where
  i : Nat
  l : LW
def wlc (x : WL) : List Value := [.int .i64 x.l.tn, .int .i64 (x.l.ds.length : Int), .func (.func 56) #[] #[pv x.l.ba, pv x.l.bk], .int .i64 (x.i : Int)]
theorem wlc_one (x : WL) : ∀ u ∈ wlc x, u.oneCell' = true := fun u hu => by
  simp only [wlc, List.mem_cons, List.not_mem_nil, or_false] at hu
  rcases hu with rfl | rfl | rfl | rfl <;> rfl
def wcs (ws : List WL) : List Value := ws.flatMap wlc
theorem wcs_len : ∀ ws : List WL, (wcs ws).length = ws.length * 4
  | [] => rfl
  | x :: r => by
    show (wlc x ++ wcs r).length = _
    rw [List.length_append, wcs_len r, List.length_cons]
    simp only [wlc, List.length_cons, List.length_nil]
    omega
theorem wcs_snoc (ws : List WL) (x : WL) : wcs (ws ++ [x]) = wcs ws ++ wlc x := by simp [wcs]
/-- the writes of these files -/
def wls (gs : LG) : List WL := (gs.zipIdx).flatMap fun p => p.1.2.lo.map fun l => ⟨p.2, l⟩
theorem wls_snoc (gs : LG) (p : List UInt8 × FL) : wls (gs ++ [p]) = wls gs ++ p.2.lo.map fun l => ⟨gs.length, l⟩ := by
  unfold wls
  rw [List.zipIdx_append, List.flatMap_append]
  simp
end Go.Proofs.YtepakbghhnkcfaaDoor
