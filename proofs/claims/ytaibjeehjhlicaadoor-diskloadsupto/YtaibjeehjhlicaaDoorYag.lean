import Derived.Test.YtaibjeehjhlicaaDoorYaf
namespace Go.Proofs.YtaibjeehjhlicaaDoor
open Go.RowKit Go.Shelf TextNum ModNum
theorem gro_wr (nb ds : List UInt8) (p : Nat) (h : ds ≠ []) : (nb.length : Int) + gro nb.length p ds.length = ((wr nb p ds).length : Int) := by
  have hl := List.length_pos_iff.2 h
  rw [wr_len nb p ds h]
  unfold gro
  by_cases hc : ds.length = 0 ∨ (p : Int) + ds.length ≤ nb.length
  · rw [if_pos hc]
    rcases hc with hc | hc <;> omega
  · rw [if_neg hc]
    have : ¬ ((p : Int) + ds.length ≤ nb.length) := fun h => hc (.inr h)
    omega
theorem lcs_snoc (lo : List LW) (l : LW) : lcs (lo ++ [l]) = lcs lo ++ lwc l.tn l.ds.length l.ba l.bk := by
  unfold lcs
  rw [List.flatMap_append]
  simp
theorem Inv.wrote {w w' : World} {B D M F T : Nat} {s : DS} (h : Inv w B D M F T s) (p : Nat) (ds : List UInt8) (h0 : ds ≠ []) (hpl : p + ds.length ≤ 1099511627776) (hnl : (wr s.nb p ds).length ≤ s.room) (vn' vo' vk : Value) (ba bk : Nat)
    (q1 : At w' D 58 [.int .i64 (s.room : Int), .int .i64 ((s.nb.length : Int) + gro s.nb.length p ds.length), .bool false, .map (some M), s.vL, s.vC, .slice none 0 0, .int .i64 ((s.lo.length : Int) + 1), .int .i64 (s.trn + 1), .int .i64 s.acts, .int .i64 0, .int .i64 0])
    (q2 : At w' F 51 [vn', s.vl, vo']) (q3 : Ow w' B vn' (wr s.nb p ds)) (q4 : w'.ownsRow B 123 3 vo' (s.lo.length + 1) (lcs s.lo ++ lwc s.trn ds.length ba bk)) (q5 : At w' ba 3 [.int .i64 (p : Int)]) (q6 : At w' bk 27 [vk])
    (q7 : Ow w' w.heap.size vk ds) (q10 : Frs w s.vn vn') (q11 : ∀ g, vk.ownBlock = some g → vn'.ownBlock ≠ some g) (q12 : Fr (fun k => k = D ∨ k = F ∨ s.vn.ownBlock = some k ∨ s.vo.ownBlock = some k) w w')
    (hn : s.lo.length + 1 ≤ T ∧ s.trn + 1 ≤ T) :
    Inv w' B D M F T { s with vn := vn', vo := vo', nb := wr s.nb p ds, lo := s.lo ++ [⟨p, ds, ba, bk, vk, s.trn⟩], trn := s.trn + 1 } ∧ Nx w s { s with vn := vn', vo := vo', nb := wr s.nb p ds, lo := s.lo ++ [⟨p, ds, ba, bk, vk, s.trn⟩], trn := s.trn + 1 } := by
  have lvn := World.ownsRow.lt h.now
  have lvl := World.ownsRow.lt h.last
  have lvo := World.ownsRow.lt h.loose
  have hS : ∀ k, (k = D ∨ k = F ∨ s.vn.ownBlock = some k ∨ s.vo.ownBlock = some k) → B ≤ k := fun k hk => by
    rcases hk with rfl | rfl | hk | hk
    · exact h.low.2.1
    · exact h.low.2.2.2
    · exact (lvn k hk).1
    · exact (lvo k hk).1
  have hap : ∀ g, vn'.ownBlock = some g → s.vl.ownBlock ≠ some g := fun g hg e => by
    rcases q10 g hg with h1 | h1
    · exact h.apart g h1 e
    · have := (lvl g e).2; omega
  refine ⟨⟨?_, h.low, Nat.le_trans h.hB q12.size, ?_, ?_, q2, q3, ?_, hap, ?_, ?_, h.room, hnl, h.lbl, ?_⟩, ⟨q10, Frs.refl _ _, fun l hl => ?_, rfl⟩⟩
  · obtain ⟨m, hm⟩ := h.ml
    have hb : 0 < w.heap.size := Nat.lt_of_lt_of_le h.low.1 h.hB
    refine ⟨m, ?_⟩
    rw [← hm]
    exact World.cell?_of_block (q12.block 0 hb (fun hk => by have h5 : B ≤ 0 := hS _ hk; have h6 := h.low.1; omega))
  · have e1 := gro_wr s.nb ds p h0
    rw [e1] at q1
    show At w' D 58 [.int .i64 (s.room : Int), .int .i64 ((wr s.nb p ds).length : Int), .bool false, .map (some M), s.vL, s.vC, .slice none 0 0, .int .i64 ((s.lo ++ [(⟨p, ds, ba, bk, vk, s.trn⟩ : LW)]).length : Int), .int .i64 (s.trn + 1), .int .i64 s.acts, .int .i64 0, .int .i64 0]
    rw [List.length_append]
    exact q1
  · have hlt := World.ownsMap.lt h.map
    have hM : ¬ (M = D ∨ M = F ∨ s.vn.ownBlock = some M ∨ s.vo.ownBlock = some M) := fun hk => by
      rcases hk with hk | hk | hk | hk
      · exact map_ne h.map h.disk hk
      · exact map_ne h.map h.file hk
      · exact map_own h.map h.now hk
      · exact map_own h.map h.loose hk
    obtain ⟨es, cl, hb, r⟩ := h.map
    exact ⟨es, cl, (q12.block M hlt hM).trans hb, r⟩
  · refine q12.own h.last (fun g hg hk => ?_)
    rcases hk with hk | hk | hk | hk
    · exact own_ne h.last h.disk (by decide) (hk ▸ hg)
    · exact own_ne h.last h.file (by decide) (hk ▸ hg)
    · exact h.apart g hk hg
    · exact own_apart h.last h.loose (by decide) hg hk
  · show w'.ownsRow B 123 3 vo' (s.lo ++ [(⟨p, ds, ba, bk, vk, s.trn⟩ : LW)]).length (lcs (s.lo ++ [⟨p, ds, ba, bk, vk, s.trn⟩]))
    rw [lcs_snoc, List.length_append]
    exact q4
  · intro l hl
    rcases List.mem_append.1 hl with hl | hl
    · have he := h.each l hl
      refine ⟨q12.at he.pa (fun hk => ?_), q12.at he.pk (fun hk => ?_), q12.own he.own (fun g hg hk => ?_), fun g hg => ⟨fun e => ?_, (he.ap g hg).2⟩, he.len⟩
      · rcases hk with hk | hk | hk | hk
        · exact he.pa.ne h.disk (by decide) hk
        · exact he.pa.ne h.file (by decide) hk
        · exact own_ne h.now he.pa (by decide) hk
        · exact own_ne h.loose he.pa (by decide) hk
      · rcases hk with hk | hk | hk | hk
        · exact he.pk.ne h.disk (by decide) hk
        · exact he.pk.ne h.file (by decide) hk
        · exact own_ne h.now he.pk (by decide) hk
        · exact own_ne h.loose he.pk (by decide) hk
      · rcases hk with hk | hk | hk | hk
        · exact own_ne he.own h.disk (by decide) (hk ▸ hg)
        · exact own_ne he.own h.file (by decide) (hk ▸ hg)
        · exact (he.ap g hg).1 hk
        · exact own_apart he.own h.loose (by decide) hg hk
      · rcases q10 g e with h1 | h1
        · exact (he.ap g hg).1 h1
        · have := (World.ownsRow.lt he.own g hg).2; omega
    · obtain rfl := List.mem_singleton.1 hl
      exact ⟨q5, q6, ow_base q7 h.hB, fun g hg => ⟨q11 g hg, fun e => by have := (lvl g e).2; have := (World.ownsRow.lt q7 g hg).1; omega⟩, hpl⟩
  · have := h.num
    simp only [List.length_append, List.length_cons, List.length_nil]
    omega
  · rcases List.mem_append.1 hl with hl | hl
    · exact .inl hl
    · obtain rfl := List.mem_singleton.1 hl
      exact .inr (fun g hg => (World.ownsRow.lt q7 g hg).1)
theorem wrE_ok {room n m : Nat} {p : Int} (h : wrE room n p m = 0) (hn : n ≤ room) (hm : m ≠ 0) : 0 ≤ p ∧ p ≤ 1048576 ∧ p + m ≤ room := by
  unfold wrE at h
  by_cases h1 : p < 0 ∨ 1048576 < p
  · rw [if_pos h1] at h; cases h
  · rw [if_neg h1] at h
    by_cases h2 : 0 < gro n p m ∧ (room : Int) < n + gro n p m
    · rw [if_pos h2] at h; cases h
    · have h3 : ¬ (0 < gro n p m) ∨ ¬ ((room : Int) < n + gro n p m) := by
        rcases Decidable.not_and_iff_or_not.1 h2 with h | h
        · exact .inl h
        · exact .inr h
      unfold gro at h3
      by_cases h4 : m = 0 ∨ p + m ≤ n
      · rcases h4 with h4 | h4
        · exact absurd h4 hm
        · omega
      · rw [if_neg h4] at h3
        have h5 : ¬ (p + m ≤ n) := fun h => h4 (.inr h)
        omega
end Go.Proofs.YtaibjeehjhlicaaDoor
