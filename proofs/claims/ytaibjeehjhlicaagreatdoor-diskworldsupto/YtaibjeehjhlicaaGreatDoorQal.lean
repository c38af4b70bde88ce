import Derived.Test.YtaibjeehjhlicaaGreatDoorQbh
namespace Go.Proofs.YtaibjeehjhlicaaGreatDoor
open Go.RowKit Go.Shelf TextNum ModNum
/-- a named file is another now -/
def rpl (nf : List (List UInt8 × FL)) (b : Nat) (f' : FL) : List (List UInt8 × FL) := nf.map fun p => if p.2.b = b then (p.1, f') else p
theorem rpl_keys (nf : List (List UInt8 × FL)) (b : Nat) (f' : FL) : (rpl nf b f').map (·.1) = nf.map (·.1) := by
  unfold rpl
  rw [List.map_map]
  apply List.map_congr_left
  intro p _
  simp only [Function.comp]
  split <;> rfl
theorem rpl_none {nf : List (List UInt8 × FL)} {b : Nat} {f' : FL} (h : ∀ p ∈ nf, p.2.b ≠ b) : rpl nf b f' = nf := by
  unfold rpl
  rw [List.map_congr_left (g := id) (fun p hp => by rw [if_neg (h p hp)]; rfl), List.map_id]
theorem rpl_split {xs ys : List (List UInt8 × FL)} {l : List UInt8} {f f' : FL} (hx : ∀ p ∈ xs, p.2.b ≠ f.b) (hy : ∀ p ∈ ys, p.2.b ≠ f.b) : rpl (xs ++ (l, f) :: ys) f.b f' = xs ++ (l, f') :: ys := by
  have h1 := rpl_none (f' := f') hx
  have h2 := rpl_none (f' := f') hy
  unfold rpl at h1 h2 ⊢
  rw [List.map_append, List.map_cons, h1, h2, if_pos rfl]
def flS (s : DD) (b : Nat) (f' : FL) (t : Nat) : DD := { s with nf := rpl s.nf b f', trn := t }
theorem DOk.split {w : World} {B D T : Nat} {s : DD} (h : DOk w B D T s) {l : List UInt8} {f : FL} (hf : (l, f) ∈ s.nf) : ∃ xs ys, s.nf = xs ++ (l, f) :: ys ∧ (∀ g ∈ xs.map (·.2) ++ ys.map (·.2) ++ s.of, g.b ≠ f.b) ∧ ∀ f', rpl s.nf f.b f' = xs ++ (l, f') :: ys := by
  obtain ⟨xs, ys, e⟩ := List.append_of_mem hf
  have hnd := h.fnd
  have P : (fls s).Perm (f :: (xs.map (·.2) ++ ys.map (·.2) ++ s.of)) := by
    unfold fls
    rw [e, List.map_append, List.map_cons, List.append_assoc, List.cons_append, List.append_assoc]
    exact List.perm_middle
  have h2 := ((P.map (·.b)).nodup_iff.1 hnd)
  rw [List.map_cons, List.nodup_cons] at h2
  have h3 : ∀ g ∈ xs.map (·.2) ++ ys.map (·.2) ++ s.of, g.b ≠ f.b := fun g hg e => h2.1 (List.mem_map.2 ⟨g, hg, e⟩)
  refine ⟨xs, ys, e, h3, fun f' => ?_⟩
  rw [e]
  exact rpl_split (fun p hp => h3 p.2 (List.mem_append_left _ (List.mem_append_left _ (List.mem_map.2 ⟨p, hp, rfl⟩)))) (fun p hp => h3 p.2 (List.mem_append_left _ (List.mem_append_right _ (List.mem_map.2 ⟨p, hp, rfl⟩))))
/-- behind an act on one file -/
theorem DOk.filed {w w' : World} {B D T : Nat} {s : DD} (h : DOk w B D T s) {l : List UInt8} {f f' : FL} (hf : (l, f) ∈ s.nf) (t : Nat) {S : Nat → Prop} (k : Fr S w w') (hS0 : ∀ b, S b → b = D ∨ (b ∈ fbs f ∧ B ≤ b)) (hF : FOk w' B f') (hx : Fnx w f f')
    (hd : At w' D 85 (dcl (flS s f.b f' t))) (hsz : f'.nb.length ≤ 1099511627776 ∧ f'.lb.length ≤ 1099511627776 ∧ f'.lo.length ≤ T + 1) (ht : t ≤ T + 1) (hl : lsd (fls (flS s f.b f' t)) ≤ T + 1) (hu : usd (rpl s.nf f.b f') ≤ 1099511627776) (hT : T + 1 ≤ 100000) :
    DOk w' B D (T + 1) (flS s f.b f' t) ∧ Nw w.heap.size D s (flS s f.b f' t) := by
  obtain ⟨xs, ys, e, ho, hr⟩ := h.split hf
  have hfo := h.fok f (mem_fls_nf hf)
  have P : ∀ g, (fls (flS s f.b g t)).Perm (g :: (xs.map (·.2) ++ ys.map (·.2) ++ s.of)) := fun g => by
    show ((rpl s.nf f.b g).map (·.2) ++ s.of).Perm _
    rw [hr g, List.map_append, List.map_cons, List.append_assoc, List.cons_append, List.append_assoc]
    exact List.perm_middle
  have P0 : (fls s).Perm (f :: (xs.map (·.2) ++ ys.map (·.2) ++ s.of)) := by
    unfold fls
    rw [e, List.map_append, List.map_cons, List.append_assoc, List.cons_append, List.append_assoc]
    exact List.perm_middle
  have hmem : ∀ g ∈ fls (flS s f.b f' t), g = f' ∨ (g ∈ fls s ∧ g.b ≠ f.b) := fun g hg => by
    rcases List.mem_cons.1 ((P f').mem_iff.1 hg) with h1 | h1
    · exact .inl h1
    · exact .inr ⟨P0.mem_iff.2 (List.mem_cons_of_mem _ h1), ho g h1⟩
  have tS : ∀ b, S b → ∃ e0 ∈ 85 :: ftags, tagOf w b = some e0 := fun b hb => by
    rcases hS0 b hb with rfl | ⟨hb, _⟩
    · exact ⟨_, List.mem_cons_self, h.disk.tg⟩
    · obtain ⟨e0, h1, h2⟩ := hfo.tg b hb
      exact ⟨e0, List.mem_cons_of_mem _ h1, h2⟩
  have tNo : ∀ b t0, tagOf w b = t0 → (∀ e0 ∈ 85 :: ftags, t0 ≠ some e0) → ¬ S b := fun b t0 hb hn hS => by
    obtain ⟨e0, h1, h2⟩ := tS b hS
    exact hn e0 h1 (hb.symm.trans h2)
  have hml : ¬ S 0 := fun hS => by
    have hl := h.low
    rcases hS0 _ hS with hS | ⟨_, hS⟩ <;> omega
  obtain ⟨n1, n2, n3, n4, n5, n6, n7, n8, n9, n10, n11⟩ := h.num
  refine ⟨⟨ml_fr h.ml k h.hB h.low.1 hml, h.low, Nat.le_trans h.hB k.size, hd, k.map h.mnow (tNo _ _ (map_tg h.mnow) (by decide)), ⟨fun x => ?_, ?_⟩, ?_, ?_, k.map h.mlas (tNo _ _ (map_tg h.mlas) (by decide)), h.isl, h.neq, k.own h.rowC (fun g hg => tNo _ _ (own_tg h.rowC hg) (by decide)), k.own h.rowL (fun g hg => tNo _ _ (own_tg h.rowL hg) (by decide)), fun c hc => (h.chk c hc).fr k (fun b hb hS => ?_), h.lap, ?_, ?_, ?_, ?_, ?_⟩, ?_⟩
  · show Maps.has s.dm (.string x) = true ↔ x ∈ (rpl s.nf f.b f').map (·.1)
    rw [rpl_keys]; exact h.isn.has x
  · intro p hp z
    have hp : p ∈ rpl s.nf f.b f' := hp
    unfold rpl at hp
    obtain ⟨q, hq, rfl⟩ := List.mem_map.1 hp
    by_cases hb : q.2.b = f.b
    · rw [if_pos hb]
      show s.dm.atKey (.string q.1) z = fd f'.b
      rw [hx.1, ← hb]; exact h.isn.val q hq z
    · rw [if_neg hb]; exact h.isn.val q hq z
  · show ((rpl s.nf f.b f').map (·.1)).Nodup
    rw [rpl_keys]; exact h.nd
  · intro p hp
    have hp : p ∈ rpl s.nf f.b f' := hp
    have : p.1 ∈ (rpl s.nf f.b f').map (·.1) := List.mem_map_of_mem hp
    rw [rpl_keys] at this
    obtain ⟨q, hq, e1⟩ := List.mem_map.1 this
    rw [← e1]; exact h.nms q hq
  · obtain ⟨e0, h1, h2⟩ := tS b hS
    obtain ⟨e1, h3, h4⟩ := (h.chk c hc).tg b hb
    obtain rfl := Option.some.inj (h2.symm.trans h4)
    exact (by decide : ∀ e ∈ 85 :: ftags, e ∉ [88, 9]) e0 h1 h3
  · intro g hg
    rcases hmem g hg with rfl | ⟨h1, h2⟩
    · exact hF
    · refine (h.fok g h1).fr k (fun b hb hS => ?_)
      rcases hS0 b hS with rfl | ⟨hS, _⟩
      · exact (h.fok g h1).out hb h.disk.tg (by decide)
      · exact h.apart g h1 f (mem_fls_nf hf) h2 b hb hS
  · refine ((P f').map (·.b)).nodup_iff.2 ?_
    have := (P0.map (·.b)).nodup_iff.1 h.fnd
    rw [List.map_cons] at this ⊢
    rw [hx.1]; exact this
  · have key : ∀ g ∈ fls s, g.b ≠ f.b → ∀ b ∈ fbs f', b ∉ fbs g := fun g hg hne b hb hb' => by
      rcases hx.2 b hb with h1 | h1
      · exact h.apart g hg f (mem_fls_nf hf) hne b hb' h1
      · have := (h.fok g hg).lt b hb'; omega
    intro g1 hg1 g2 hg2 hne b hb hb'
    rcases hmem g1 hg1 with rfl | ⟨h1, h2⟩
    · rcases hmem g2 hg2 with rfl | ⟨h3, h4⟩
      · exact hne rfl
      · exact key g2 h3 h4 b hb hb'
    · rcases hmem g2 hg2 with rfl | ⟨h3, h4⟩
      · exact key g1 h1 h2 b hb' hb
      · exact h.apart g1 h1 g2 h3 hne b hb hb'
  · intro g hg
    rcases hmem g hg with rfl | ⟨h1, _⟩
    · exact hsz
    · have := h.sz g h1; omega
  · show s.chs.length ≤ T + 1 ∧ s.of.length ≤ T + 1 ∧ t ≤ T + 1 ∧ s.acts ≤ T + 1 ∧ lsd (fls (flS s f.b f' t)) ≤ T + 1 ∧ s.nM ≤ s.n0 + (T + 1) ∧ s.nL ≤ s.n0 + (T + 1) ∧ T + 1 ≤ 100000 ∧ s.n0 ≤ 1000000 ∧ s.room ≤ 1099511627776 ∧ usd (rpl s.nf f.b f') ≤ 1099511627776
    omega
  · intro b hb
    rcases hb with hb | hb | hb | hb | hb | ⟨g, hg, hb⟩ | hb
    · exact .inl (.inl hb)
    · exact .inl (.inr (.inl hb))
    · exact .inl (.inr (.inr (.inl hb)))
    · exact .inl (.inr (.inr (.inr (.inl hb))))
    · exact .inl (.inr (.inr (.inr (.inr (.inl hb)))))
    · rcases hmem g hg with rfl | ⟨h1, _⟩
      · rcases hx.2 b hb with h1 | h1
        · exact .inl (.inr (.inr (.inr (.inr (.inr (.inl ⟨f, mem_fls_nf hf, h1⟩))))))
        · exact .inr h1
      · exact .inl (.inr (.inr (.inr (.inr (.inr (.inl ⟨g, h1, hb⟩))))))
    · exact .inl (.inr (.inr (.inr (.inr (.inr (.inr hb))))))
end Go.Proofs.YtaibjeehjhlicaaGreatDoor
namespace Go.Proofs.YtaibjeehjhlicaaGreatDoor
open Go.RowKit Go.Shelf TextNum ModNum
/-- what a write's own error is -/
def wrF (room used n : Nat) (p : Int) (m : Nat) : Int := if p < 0 ∨ 1048576 < p then 1 else if 0 < gro n p m ∧ (room : Int) < used + gro n p m then 123 else 0
set_option maxRecDepth 100000 in
set_option maxHeartbeats 1000000 in
theorem writeError_gen (D F n m room used : Nat) (p : Int) (an am : Option Addr) (cn cm : Nat) (x1 x2 y2 y3 y4 y5 y6 y7 y8 y9 y10 y11 : Value) (w : World) (hD : At w D 85 [.int .i64 (room : Int), .int .i64 (used : Int), y2, y3, y4, y5, y6, y7, y8, y9, y10, y11]) (hA : At w F 95 [.slice an n cn, x1, x2])
    (hm : m ≤ 140737488355328) (hn : n ≤ 35184372088832) (hr : room ≤ 35184372088832) (hus : used ≤ 35184372088832) :
    Calls Tryz.prog 56 #[.pointer (some ⟨D, 0, none⟩), .pointer (some ⟨F, 0, none⟩), .int .i64 p, .slice am m cm] w fun e w' => e = .returned (.int .i64 (wrF room used n p m)) ∧ Up w w' := by
  by_cases hp0 : p < 0
  · have HR := Hid.of (show wrF room used n p m = 1 from if_pos (.inl hp0))
    go_enter Tryz.func56, Tryz.ntmps56
    go_wp2
    go_ret
    rw [HR.out]
    exact ⟨rfl, Up.refl _⟩
  by_cases hp1 : 1048576 < p
  · have HR := Hid.of (show wrF room used n p m = 1 from if_pos (.inr hp1))
    go_enter Tryz.func56, Tryz.ntmps56
    go_wp2
    go_ret
    rw [HR.out]
    exact ⟨rfl, Up.refl _⟩
  have HC := Hid.of (growth_walk F n m p an am cn cm x1 x2 w hA (by omega) (by omega) hm hn)
  have hc0 := hD.cell (i := 0) rfl
  have hc1 := hD.cell (i := 1) rfl
  have HE := Hid.of (show wrF room used n p m = if 0 < gro n p m ∧ (room : Int) < used + gro n p m then 123 else 0 from if_neg (fun h => by rcases h with h | h <;> omega))
  have hg0 : 0 ≤ gro n p m := by
    unfold gro
    by_cases h : m = 0 ∨ p + m ≤ n
    · rw [if_pos h]; omega
    · rw [if_neg h]; omega
  have hg1 : gro n p m ≤ 140737488355328 + 1048576 := by
    unfold gro
    by_cases h : m = 0 ∨ p + m ≤ n
    · rw [if_pos h]; omega
    · rw [if_neg h]; omega
  generalize gro n p m = g at *
  clear hA hD
  by_cases hz : 0 < g
  · by_cases hf : (room : Int) < used + g
    · have HR := Hid.of (HE.out.trans (if_pos ⟨hz, hf⟩))
      clear HE
      go_enter Tryz.func56, Tryz.ntmps56
      go_wp2_with fail
      refine HC.out.mono ?_
      rintro e w1 ⟨rfl, rfl⟩
      dsimp only
      go_wp2
      go_region
      go_wp2
      go_ret
      rw [HR.out]
      exact ⟨rfl, (Up.refl _).drew⟩
    · have HR := Hid.of (HE.out.trans (if_neg (fun h => hf h.2)))
      clear HE
      go_enter Tryz.func56, Tryz.ntmps56
      go_wp2_with fail
      refine HC.out.mono ?_
      rintro e w1 ⟨rfl, rfl⟩
      dsimp only
      go_wp2
      go_region
      go_wp2
      go_ret
      rw [HR.out]
      exact ⟨rfl, (Up.refl _).drew⟩
  · have HR := Hid.of (HE.out.trans (if_neg (fun h => hz h.1)))
    obtain rfl : g = 0 := by omega
    clear HE hz hg0 hg1
    go_enter Tryz.func56, Tryz.ntmps56
    go_wp2_with fail
    refine HC.out.mono ?_
    rintro e w1 ⟨rfl, rfl⟩
    dsimp only
    go_wp2
    go_region
    go_wp2
    go_ret
    rw [HR.out]
    exact ⟨rfl, (Up.refl _).drew⟩

theorem usd_split {xs ys : List (List UInt8 × FL)} {l : List UInt8} {f : FL} : usd (xs ++ (l, f) :: ys) = usd xs + usd ys + f.nb.length := by
  rw [usd_append, usd_cons]; simp only; omega
theorem lsd_flS {w : World} {B D T : Nat} {s : DD} (h : DOk w B D T s) {l : List UInt8} {f f' : FL} (hf : (l, f) ∈ s.nf) (t : Nat) : lsd (fls (flS s f.b f' t)) + f.lo.length = lsd (fls s) + f'.lo.length ∧ usd (rpl s.nf f.b f') + f.nb.length = usd s.nf + f'.nb.length ∧ f.nb.length ≤ usd s.nf ∧ f.lo.length ≤ lsd (fls s) := by
  obtain ⟨xs, ys, e, _, hr⟩ := h.split hf
  have h1 : lsd (fls (flS s f.b f' t)) = lsd (xs.map (·.2)) + (f'.lo.length + lsd (ys.map (·.2))) + lsd s.of := by
    show lsd ((rpl s.nf f.b f').map (·.2) ++ s.of) = _
    rw [hr f', lsd_append, List.map_append, List.map_cons, lsd_append, lsd_cons]
  have h2 : lsd (fls s) = lsd (xs.map (·.2)) + (f.lo.length + lsd (ys.map (·.2))) + lsd s.of := by
    unfold fls
    rw [e, lsd_append, List.map_append, List.map_cons, lsd_append, lsd_cons]
  have h3 : usd (rpl s.nf f.b f') = usd xs + usd ys + f'.nb.length := by rw [hr f', usd_split]
  have h4 : usd s.nf = usd xs + usd ys + f.nb.length := by rw [e, usd_split]
  omega
/-- the file behind a write -/
abbrev wtF (f : FL) (p : Nat) (ds : List UInt8) (vn vo vk : Value) (ba bk : Nat) (tn : Int) : FL := { f with vn := vn, vo := vo, nb := wr f.nb p ds, lo := f.lo ++ [⟨p, ds, ba, bk, vk, tn⟩] }
theorem gro_len (nb ds : List UInt8) (p : Nat) (h : ds ≠ []) : ((wr nb p ds).length : Int) = nb.length + gro nb.length p ds.length := by
  rw [wr_len _ _ _ h]
  have : 0 < ds.length := List.length_pos_iff.2 h
  unfold gro
  by_cases hc : ds.length = 0 ∨ (p : Int) + ds.length ≤ nb.length
  · rw [if_pos hc]; omega
  · rw [if_neg hc]; omega
set_option maxRecDepth 100000 in
theorem write_dd {B D T : Nat} {s : DD} (nm : List UInt8) (f : FL) (p : Nat) (vd : Value) (ds : List UInt8) (w : World) (h : DOk w B D T s) (hfm : (nm, f) ∈ s.nf) (hd : Sb w vd ds) (h0 : ds ≠ []) (hp : p ≤ 1048576) (hds : ds.length ≤ 1099511627776) (hpl : p + ds.length ≤ 1099511627776) (hu : (usd s.nf : Int) + gro f.nb.length p ds.length ≤ 1099511627776) (hT : T + 1 ≤ 100000) :
    Calls Tryz.prog 58 #[pv D, pv f.b, .int .i64 (p : Int), vd] w fun e w' => e = .returned (.tuple #[]) ∧ ∃ vn vo vk ba bk, DOk w' B D (T + 1) (flS s f.b (wtF f p ds vn vo vk ba bk s.trn) (s.trn + 1)) ∧ Nw w.heap.size D s (flS s f.b (wtF f p ds vn vo vk ba bk s.trn) (s.trn + 1)) ∧ Fr (own D s) w w' := by
  have hfo := h.fok f (mem_fls_nf hfm)
  have hnum := h.num
  have hsz := h.sz f (mem_fls_nf hfm)
  refine (write_walk2 B D f.b p (usd s.nf) (lsd (fls s)) s.trn _ _ _ _ _ _ _ _ _ f.vn f.vl f.vo vd f.nb ds f.lo.length (lcs f.lo) w h.disk hfo.file hfo.now hfo.loose hd hp (by omega) (by omega) h.hB (by omega) (by omega) (by omega) (by omega) (by omega) (by omega) (by omega)).mono ?_
  rintro e w' ⟨rfl, vn, vo, vk, ba, bk, q1, q2, q3, q4, q5, q6, q7, q8, q9, q10, q11, q12, q13⟩
  obtain ⟨k1, k2⟩ := hfo.wrote h.disk p ds hpl h.hB vn vo vk ba bk s.trn q2 q3 q4 q5 q6 q7 q8 q9 q10 q11 q12 q13
  have hg := gro_len f.nb ds p h0
  obtain ⟨r1, r2, r3, r4⟩ := lsd_flS (f' := wtF f p ds vn vo vk ba bk s.trn) h hfm (s.trn + 1)
  have hll : (wtF f p ds vn vo vk ba bk s.trn).lo.length = f.lo.length + 1 := by simp
  have hnl : (wtF f p ds vn vo vk ba bk s.trn).nb.length = (wr f.nb p ds).length := rfl
  rw [hll] at r1
  rw [hnl] at r2
  have mf : ∀ k, (k = D ∨ k = f.b ∨ f.vn.ownBlock = some k ∨ f.vo.ownBlock = some k) → k = D ∨ (k ∈ fbs f ∧ B ≤ k) := fun k hk => by
    rcases hk with hk | hk | hk | hk
    · exact .inl hk
    · exact .inr ⟨hk ▸ List.mem_cons_self, hk ▸ hfo.low⟩
    · exact .inr ⟨List.mem_cons_of_mem _ (List.mem_append_left _ (mem_vbs.2 hk)), (World.ownsRow.lt hfo.now k hk).1⟩
    · exact .inr ⟨List.mem_cons_of_mem _ (List.mem_append_right _ (List.mem_append_right _ (List.mem_append_left _ (mem_vbs.2 hk)))), (World.ownsRow.lt hfo.loose k hk).1⟩
  have hfin := h.filed hfm (s.trn + 1) (f' := wtF f p ds vn vo vk ba bk s.trn) q12 mf k1 k2 (by
    show At w' D 85 [.int .i64 (s.room : Int), .int .i64 ((usd (rpl s.nf f.b (wtF f p ds vn vo vk ba bk s.trn)) : Nat) : Int), .bool s.dead, .map (some s.M), .map (some s.L), s.vC, s.vLo, .int .i64 ((lsd (fls (flS s f.b (wtF f p ds vn vo vk ba bk s.trn) (s.trn + 1))) : Nat) : Int), .int .i64 ((s.trn + 1 : Nat) : Int), .int .i64 (s.acts : Int), .int .i64 (s.unt : Int), .int .i64 s.flt]
    have e1 : ((usd (rpl s.nf f.b (wtF f p ds vn vo vk ba bk s.trn)) : Nat) : Int) = (usd s.nf : Int) + gro f.nb.length p ds.length := by omega
    have e2 : ((lsd (fls (flS s f.b (wtF f p ds vn vo vk ba bk s.trn) (s.trn + 1))) : Nat) : Int) = (lsd (fls s) : Int) + 1 := by omega
    have e3 : ((s.trn + 1 : Nat) : Int) = (s.trn : Int) + 1 := by omega
    rw [e1, e2, e3]
    exact q1) ⟨by rw [hnl]; omega, hsz.2.1, by rw [hll]; omega⟩ (by omega) (by omega) (by omega) hT
  refine ⟨rfl, vn, vo, vk, ba, bk, hfin.1, hfin.2, q12.weak (fun k hk => ?_)⟩
  rcases mf k hk with hk | hk
  · exact .inl hk
  · exact .inr (.inr (.inr (.inr (.inr (.inl ⟨f, mem_fls_nf hfm, hk.1⟩)))))
end Go.Proofs.YtaibjeehjhlicaaGreatDoor
