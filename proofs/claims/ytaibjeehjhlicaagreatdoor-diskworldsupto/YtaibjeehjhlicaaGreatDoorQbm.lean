import Derived.Test.YtaibjeehjhlicaaGreatDoorQbl
import Derived.OwnWalk
namespace Go.Proofs.YtaibjeehjhlicaaGreatDoor
open Go.RowKit Go.Shelf TextNum ModNum
set_option maxRecDepth 100000 in
theorem Tryz.infoLf : (Tryz.prog.info? 151).map (fun i => (i.zero, i.size, i.bytes)) = some (some (.agg #[.int .i64 0, .int .i64 0, .nilFunc, .int .i64 0]), 4, 32) := by kernel_rfl
set_option maxRecDepth 100000 in
theorem infoLeft4 : (Tryz.prog.info? 151).map (·.size) = some 4 := by kernel_rfl
set_option maxRecDepth 100000 in
theorem infoLoose3 : (Tryz.prog.info? 144).map (·.size) = some 3 := by kernel_rfl
theorem exec_idxLoose {o : Oper} {ρ : Operand → Value} {x y : Operand} {w : World} {b off n c : Nat} (i : Nat) (hi : i < n) (ho : o.op = .indexAddr 93 x y) (hx : ρ x = .slice (some ⟨b, off, none⟩) n c) (hy : ρ y = .int .i64 (i : Int)) : (execOp ρ o).run Tryz.prog w = .ok (.value (.pointer (some ⟨b, off + i * 3, none⟩))) w := by
  have hi' : (i : Int) < (n : Int) := by omega
  unfold execOp
  simp only [ho, hx, hy]
  go_simp
theorem exec_idxLeft {o : Oper} {ρ : Operand → Value} {x y : Operand} {w : World} {b off n c : Nat} (i : Nat) (hi : i < n) (ho : o.op = .indexAddr 149 x y) (hx : ρ x = .slice (some ⟨b, off, none⟩) n c) (hy : ρ y = .int .i64 (i : Int)) : (execOp ρ o).run Tryz.prog w = .ok (.value (.pointer (some ⟨b, off + i * 4, none⟩))) w := by
  have hi' : (i : Int) < (n : Int) := by omega
  unfold execOp
  simp only [ho, hx, hy]
  go_simp
theorem range3 {w : World} {b off : Nat} {x y z : Value} (h1 : w.cell? ⟨b, off, none⟩ = some x) (h2 : w.cell? ⟨b, off + 1, none⟩ = some y) (h3 : w.cell? ⟨b, off + 2, none⟩ = some z) : w.rangeAt b off [x, y, z] := fun j v hj => by
  match j, hj with
  | 0, hj => simp at hj; subst hj; exact h1
  | 1, hj => simp at hj; subst hj; exact h2
  | 2, hj => simp at hj; subst hj; exact h3
  | j + 3, hj => simp at hj
/-- a write is appended to the writes that are left -/
theorem wpList_appLeft {w : World} {N q : Nat} {ops : Array Oper} {rest : List Oper} {o : Oper} {a : Act} {Q : Exit → Act → World → Prop} (hgd : o.guard = none) (x y : Operand)
    (ho : o.op = .call { callee := .builtin .append, args := #[x, y], argTypes := #[149, 149] }) (ax : Option Addr) (cx : Nat) (ws : List WL) (g : WL) (hq : ws.length = q) (hx : a.eval x = .slice ax q cx) (hy : a.eval y = .slice (some ⟨w.heap.size, 0, none⟩) 1 1)
    (hR : w.ownsRow N 151 4 (.slice ax q cx) q (wcs ws)) (hNw : N ≤ w.heap.size) (hql : q ≤ 1099511627776)
    (K : ∀ ax2 cx2 w', w'.ownsRow N 151 4 (.slice ax2 (q + 1) cx2) (q + 1) (wcs (ws ++ [g])) → w.grownBy w' (Value.slice ax q cx).ownBlock → wpList Tryz.prog ops Q rest (a.put o.dst (.slice ax2 (q + 1) cx2)) w') :
    wpList Tryz.prog ops Q (o :: rest) a (w.alloc (.cells #[.int .i64 g.l.tn, .int .i64 (g.l.ds.length : Int), .func (.func 97) #[] #[pv g.l.ba, pv g.l.bk], .int .i64 (g.i : Int)] 151)) := by
  subst hq
  obtain ⟨i1, hi1, hz0, hz1, hz2⟩ := info_parts Tryz.infoLf
  have HUx := (Up.refl w).alloc (.cells #[.int .i64 g.l.tn, .int .i64 (g.l.ds.length : Int), .func (.func 97) #[] #[pv g.l.ba, pv g.l.bk], .int .i64 (g.i : Int)] 151)
  have hnu := ow_up hR HUx
  refine wpList_append_own _ hgd x y 149 ho N 151 i1 (.agg #[.int .i64 0, .int .i64 0, .nilFunc, .int .i64 0]) 4 32 Tryz.underlying149 hi1 hz0 hz1 hz2 rfl (by omega) (.slice ax ws.length cx) ws.length _ hx hnu ⟨w.heap.size, 0, none⟩ 1 1 (wlc g) hy rfl ?_ (wlc_one g) (by simp only [maxLen]; omega) (by omega) (Nat.le_trans hNw HUx.size) ?_
  · intro j u hu
    rw [Addr.add_lit]
    exact At.cell (at_new w 151 (wlc g)) (i := 0 + j) (by rw [Nat.zero_add]; exact hu)
  intro v8 w8 o8 g8 _
  obtain ⟨ax2, cx2, rfl⟩ : ∃ ax2 cx2, v8 = .slice ax2 (ws.length + 1) cx2 := by
    rcases o8.2 with ⟨_, h0⟩ | ⟨g, cap, cur, e1, _⟩
    · omega
    · exact ⟨_, cap, e1⟩
  refine K ax2 cx2 w8 ?_ (up_grown HUx g8)
  rw [wcs_snoc]
  exact o8
/-- what the first loop of leftFiles keeps -/
structure LK (W w : World) (N Lf r n : Nat) (dm : DataW Unit) (left : Lit → Bool) (cnt : Nat) (m : NM) (F : List FL) (gs : LG) (a5 : Option Addr) (c5 : Nat) (fs : List GF) (a6 : Option Addr) (q c6 : Nat) : Prop where
  rng : w.ranges Tryz.prog 9 rp Lf r n dm left cnt
  up : Up W w
  fl : FsO w N a5 fs c5
  fe : (fs.map fun g => (g.nm.data.toList, g.ds)) = gs.map fun p => (p.1, p.2.lb)
  wr : w.ownsRow N 151 4 (.slice a6 q c6) q (wcs (wls gs))
  wq : (wls gs).length = q
  nd : (gs.map (·.1)).Nodup
  mem : ∀ l, l ∈ gs.map (·.1) ↔ ((m l).isSome = true ∧ left (.string l) = false)
  of : ∀ p ∈ gs, p.2 ∈ F ∧ m p.1 = some p.2.b
  cn : gs.length + cnt ≤ n
  ap : fs.Pairwise fun g h => ∀ k, g.v.ownBlock = some k → h.v.ownBlock ≠ some k
theorem own_apart4 {w : World} {N q n : Nat} {a a' : Option Addr} {c c' : Nat} {xs ys : List Value} (h : w.ownsRow N 151 4 (.slice a q c) q xs) (k : w.ownsRow N 49 2 (.slice a' n c') n ys) : (Value.slice a' n c').ownBlock = none ∨ (Value.slice a' n c').ownBlock ≠ (Value.slice a q c).ownBlock := own_off' k h (by decide)
theorem fso_by {w w' : World} {N : Nat} {a : Option Addr} {fs : List GF} {c : Nat} {row : Option Nat} (h : FsO w N a fs c) (g : w.grownBy w' row) (h1 : ∀ e m v n xs, e = 49 ∨ e = 5 → w.ownsRow N e m v n xs → v.ownBlock = none ∨ v.ownBlock ≠ row) : FsO w' N a fs c :=
  ⟨World.ownsRow.kept h.row g (h1 _ _ _ _ _ (.inl rfl) h.row), fun x hx => World.ownsRow.kept (h.dat x hx) g (h1 _ _ _ _ _ (.inr rfl) (h.dat x hx))⟩
theorem rng_up {w w' : World} {M r n cnt : Nat} {D : DataW Unit} {left : Lit → Bool} (h : w.ranges Tryz.prog 9 rp M r n D left cnt) (u : Up w w') : w'.ranges Tryz.prog 9 rp M r n D left cnt := by
  have hb := World.ownsMap.lt h.owns
  have hr := h.lt
  obtain ⟨es, clock, since, seen, c0, h1, h2, h3, h4, h5, h6⟩ := h
  exact ⟨es, clock, since, seen, c0, (u.block M hb).trans h1, h2, h3, h4, (u.block r hr).trans h5, h6⟩
theorem lsd_mem {F : List FL} {f : FL} (h : f ∈ F) : f.lo.length ≤ lsd F := by
  obtain ⟨xs, ys, rfl⟩ := List.append_of_mem h
  rw [lsd_append, lsd_cons]
  omega
theorem wls_len' : ∀ (gs : LG) (k : Nat), ((gs.zipIdx k).flatMap fun p => p.1.2.lo.map fun l => (⟨p.2, l⟩ : WL)).length = lsd (gs.map (·.2))
  | [], _ => rfl
  | p :: r, k => by rw [List.zipIdx_cons, List.flatMap_cons, List.length_append, List.length_map, wls_len' r (k + 1), List.map_cons, lsd_cons]
theorem wls_len (gs : LG) : (wls gs).length = lsd (gs.map (·.2)) := wls_len' gs 0
theorem lsd_sub {xs F : List FL} (h : ∀ f ∈ xs, f ∈ F) (nx : (xs.map (·.b)).Nodup) : lsd xs ≤ lsd F := by
  induction xs generalizing F with
  | nil => simp [lsd]
  | cons f r ih =>
    obtain ⟨us, vs', rfl⟩ := List.append_of_mem (h f List.mem_cons_self)
    rw [List.map_cons, List.nodup_cons] at nx
    have := ih (F := us ++ vs') (fun g hg => by
      have h1 := h g (List.mem_cons_of_mem _ hg)
      rcases List.mem_append.1 h1 with h1 | h1
      · exact List.mem_append_left _ h1
      · rcases List.mem_cons.1 h1 with h1 | h1
        · exact absurd (List.mem_map.2 ⟨g, hg, by rw [h1]⟩) nx.1
        · exact List.mem_append_right _ h1) nx.2
    rw [lsd_append] at this
    rw [lsd_cons, lsd_append, lsd_cons]
    omega
theorem nodup_b {gs : LG} {m : NM} {F : List FL} (h : ∀ p ∈ gs, p.2 ∈ F ∧ m p.1 = some p.2.b) (nd : (gs.map (·.1)).Nodup) (hinj : ∀ l l' b, m l = some b → m l' = some b → l = l') : (gs.map (·.2.b)).Nodup := by
  rw [List.Nodup, List.pairwise_map] at nd ⊢
  exact nd.imp_of_mem (fun {p q} hp hq hne e => hne (hinj p.1 q.1 p.2.b (h p hp).2 (by rw [e]; exact (h q hq).2)))
theorem wls_le {gs : LG} {m : NM} {F : List FL} (h : ∀ p ∈ gs, p.2 ∈ F ∧ m p.1 = some p.2.b) (hb : (gs.map (·.2.b)).Nodup) : (wls gs).length ≤ lsd F := by
  rw [wls_len]
  refine lsd_sub (fun f hf => ?_) (by rw [List.map_map]; exact hb)
  obtain ⟨p, hp, rfl⟩ := List.mem_map.1 hf
  exact (h p hp).1
set_option maxRecDepth 100000 in
set_option maxHeartbeats 8000000 in
theorem leftFiles_walk (B Lf n bn bc k0 : Nat) (dm : DataW Unit) (m : NM) (F : List FL) (cs : List Int) (w : World) (hM : OM w Lf n dm) (hI : MIs dm m) (hF : ∀ f ∈ F, FOk w B f) (hm : ∀ l b, m l = some b → ∃ f ∈ F, f.b = b) (hsz : ∀ f ∈ F, f.lb.length ≤ 1099511627776) (hn : n ≤ 1000000) (hT : lsd F ≤ 100000) (hinj : ∀ l l' b, m l = some b → m l' = some b → l = l') (hC : CH w bn bc cs k0) (hbn : bn < w.heap.size) (hbc : bc < w.heap.size) (hnb : ∀ f ∈ F, bn ∉ fbs f) (hcl : cs.length ≤ 1152921504606846976) :
    Calls Tryz.prog 65 #[.map (some Lf), chv bn bc] w fun e w' => ∃ a fs c gs ws, e = .returned (.slice a (List.length fs) c) ∧ FsO w' w.heap.size a fs c ∧ Fr (fun k => k = bn) w w' ∧ (List.map Prod.fst gs).Nodup ∧ (∀ l, l ∈ List.map Prod.fst gs ↔ (m l).isSome = true) ∧ (∀ p ∈ gs, p.2 ∈ F ∧ m p.1 = some p.2.b) ∧ List.Perm ws (wls gs) ∧ List.Pairwise (fun x y : WL => x.l.tn ≤ y.l.tn) ws ∧ (fs.map fun g => (g.nm.data.toList, g.ds)) = lfs cs k0 gs ws := by
  obtain ⟨i1, hi1, hz0, hz1, hz2⟩ := info_parts Tryz.infoFl
  have HM := Hid.of hM
  have HI := Hid.of hI
  have HF := Hid.of hF
  have HMm := Hid.of hm
  have HSzs := Hid.of hsz
  have HCH := Hid.of hC
  have HNb := Hid.of hnb
  have hs := World.ownsMap.size_le hM
  clear hM hI hF hm hsz hC hnb
  go_enter Tryz.func65, Tryz.ntmps65
  go_wp2_with (with_reducible show wpList _ _ _ ({ dst := _, op := Op.call { callee := Callee.builtin Builtin.len, args := _, argTypes := #[81] }, type := _, pos := _, after := _, guard := _ } :: _) _ _; refine Shut.out ?_)
  show wpList _ _ _ _ _ _
  refine wpList_len_own _ rfl _ 81 rfl 9 88 Tryz.underlying81 rp Lf n dm rfl HM.out ?_
  generalize Maps.size dm = sz at *
  simp only [Act.put, List.setIfInBounds_toArray, List.set_cons_zero, List.set_cons_succ]
  refine wpList_make_own w rfl _ _ 32 rfl w.heap.size 49 i1 (.agg #[.string ⟨#[]⟩, .slice none 0 0]) 2 Tryz.underlying32 hi1 hz0 hz1 .i64 .i64 _ sz rfl rfl rfl (by rw [hz2]; omega) (by simp only [maxLen]; omega) (Nat.le_refl _) ?_
  intro w1 o1 g1
  have HO1 := Hid.of o1
  have HU1 := Hid.of (up_grownBy (Up.refl w) g1 (fun g hg => by cases hg))
  clear o1 g1
  simp only [Act.put, List.setIfInBounds_toArray, List.set_cons_zero, List.set_cons_succ]
  go_wp2_with (with_reducible show wpList _ _ _ ({ dst := _, op := Op.range 81 _, type := _, pos := _, after := _, guard := _ } :: _) _ _; refine Shut.out ?_)
  show wpList _ _ _ _ _ _
  refine wpList_range_own _ rfl _ 81 rfl 9 88 (Maps.string_keyed Tryz.underlying9) Tryz.underlying81 rp Lf n dm rfl (HM.out.up HU1.out) ?_
  intro w2 hrg hg2 hs2
  have HU2 := Hid.of (show Up w w2 from up_grownBy HU1.out hg2 (fun g hg => by cases hg))
  have HO2 := Hid.of (World.ownsRow.kept HO1.out hg2 (.inr (fun e => by cases e)))
  have HRg := Hid.of hrg
  have HSz := Hid.of (World.ownsMap.size_le hrg.owns)
  have HR0 := Hid.of (show w.heap.size ≤ w1.heap.size from HU1.out.size)
  generalize w1.heap.size = r at *
  clear hrg hg2 hs2 HO1 HU1
  simp only [Act.put, List.setIfInBounds_toArray, List.set_cons_zero, List.set_cons_succ]
  go_wp2
  go_loopw [5, 6] (fun v5 v6 wq => ∃ (a5 : Option Addr) (c5 : Nat) (fs : List GF) (a6 : Option Addr) (q c6 : Nat) (gs : LG) (left : Lit → Bool) (cnt : Nat), v5 = .slice a5 (List.length fs) c5 ∧ v6 = .slice a6 q c6 ∧ Hid (LK w wq w.heap.size Lf r n dm left cnt m F gs a5 c5 fs a6 q c6)) (fun _ _ wq => wq.rangeLeft Lf r)
  case atStart =>
    refine ⟨_, _, [], none, 0, 0, [], Maps.has dm, Maps.size dm, rfl, rfl, Hid.of ⟨HRg.out, HU2.out, ⟨HO2.out, (fun g hg => by cases hg)⟩, rfl, World.ownsRow_nil _ _ _ _, rfl, List.nodup_nil, fun l => ?_, (fun p hp => by cases hp), by simpa using HSz.out, List.Pairwise.nil⟩⟩
    rw [← (HI.out l).1]
    simp
  case round =>
    obtain ⟨a5, c5, fs, a6, q, c6, gs, left, cnt, rfl, rfl, hQ⟩ := hrel
    have HQ := Hid.of hQ.out
    clear hQ
    obtain ⟨wr0, hwr0⟩ : ∃ wr0, wr0 = wr := ⟨_, rfl⟩
    subst hwr0
    go_wp2_with (with_reducible show wpList _ _ _ ({ dst := _, op := Op.next _ _, type := _, pos := _, after := _, guard := _ } :: _) _ _; refine Shut.out ?_)
    show wpList _ _ _ _ _ _
    refine wpList_next_ranges _ rfl _ rfl 9 (Maps.string_keyed Tryz.underlying9) rp (fun s : ByteArray => .string s) (fun a : Option Addr => .pointer a) (fun _ _ h => keyS_str h) (fun _ _ h => rp_ptr h) Lf r n dm left cnt rfl HQ.out.rng ?_ ?_
    · intro _ hl
      have HNm := Hid.of (show (gs.map (·.1)).Nodup ∧ (∀ l, l ∈ gs.map (·.1) ↔ (m l).isSome = true) ∧ (∀ p ∈ gs, p.2 ∈ F ∧ m p.1 = some p.2.b) from ⟨HQ.out.nd, fun l => by rw [HQ.out.mem l, hl]; simp, HQ.out.of⟩)
      have hqb : q ≤ 100000 := by have := HQ.out.wq; have := wls_le HQ.out.of (nodup_b HQ.out.of HQ.out.nd hinj); omega
      have HSo := Hid.of (Sort4_walk w.heap.size q (.slice a6 q c6) (wls gs) wr0 HQ.out.wr HQ.out.wq (by omega))
      have hfl : fs.length = gs.length := by have := congrArg List.length HQ.out.fe; simpa using this
      have HFl := Hid.of (And.intro hfl trivial)
      have hfll : fs.length ≤ 1000000 := by have := HQ.out.cn; omega
      clear hl hfl
      simp only [Act.put, List.setIfInBounds_toArray, List.set_cons_zero, List.set_cons_succ]
      go_wp2_with fail
      refine HSo.out.mono ?_
      rintro e w7 ⟨rfl, ws, hp, hs, o7, g7⟩
      have HP := Hid.of hp
      have HSd := Hid.of hs
      have HWl := Hid.of (show ws.length = q from hp.length_eq.trans HQ.out.wq)
      have HE0 := Hid.of (show LE w w7 w.heap.size bn bc cs k0 0 q gs ws a5 c5 fs a6 c6 from
        ⟨((Fr.refl _ w).up HQ.out.up).by g7 (fun k hk => .inr (World.ownsRow.lt HQ.out.wr k hk).1), fso_by HQ.out.fl g7 (fun e mm v n2 xs he ho => own_off' ho HQ.out.wr (by rcases he with rfl | rfl <;> decide)), HQ.out.ap, by rw [List.take_zero, lfs_nil]; exact HQ.out.fe, o7, (HCH.out.up HQ.out.up).by g7 (fun k hk => (World.ownsRow.lt HQ.out.wr k hk).1) hbn hbc⟩)
      clear hp hs o7 g7 HSo HQ
      dsimp only
      go_wp2
      go_loopw [55] (fun v55 wq => ∃ j : Nat, v55 = .int .i64 (j : Int) ∧ j ≤ q ∧ Hid (∃ fs', fs'.length = fs.length ∧ LE w wq w.heap.size bn bc cs k0 j q gs ws a5 c5 fs' a6 c6)) (fun v55 _ => q - (intOf v55).toNat)
      case atStart => exact ⟨0, rfl, by omega, Hid.of ⟨fs, rfl, HE0.out⟩⟩
      case round =>
        obtain ⟨j, rfl, hj, hQj⟩ := hrel
        obtain ⟨fs', hfs, hLE⟩ := hQj.out
        have HLE := Hid.of hLE
        have HFs := Hid.of (And.intro hfs trivial)
        clear hQj hLE hfs
        by_cases hjl : j < q
        · have hjz : (j : Int) < (q : Int) := by omega
          have hjw : j < ws.length := by rw [HWl.out]; exact hjl
          obtain ⟨hxi, hxl⟩ := wls_mem (HP.out.mem_iff.1 (List.getElem_mem hjw))
          have hxf : ws[j].i < fs'.length := by have := HFs.out.1; have := HFl.out.1; omega
          have hgF := (HNm.out.2.2 _ (List.getElem_mem hxi)).1
          have HLk := Hid.of (fun (w' : World) (h : Fr (fun k => k = bn) w w') => ((HF.out _ hgF).fr h (fun b hb e => HNb.out _ hgF (by rw [← show b = bn from e]; exact hb))).each _ hxl)
          have HVk := Hid.of (show ∀ k, ws[j].l.vk.ownBlock = some k → k < w.heap.size from fun k hk => (World.ownsRow.lt ((HF.out _ hgF).each _ hxl).own k hk).2)
          have HSt := Hid.of (fun (w6 w7 w8 : World) (v' : Value) (h6 : LE w w6 w.heap.size bn bc cs k0 j q gs ws a5 c5 fs' a6 c6) => LE.step (w7 := w7) (w8 := w8) (v' := v') h6 hjw hxf (Nat.le_refl _) hbn hbc)
          have hdl : (fs'[ws[j].i]).ds.length ≤ 1099511627776 := by
            have h1 : (fs'.map fun g => (g.nm.data.toList, g.ds))[ws[j].i]? = some (fs'[ws[j].i].nm.data.toList, fs'[ws[j].i].ds) := by rw [List.getElem?_map, List.getElem?_eq_getElem hxf]; rfl
            rw [HLE.out.fe, lfs_get hxi] at h1
            injection h1 with h1
            injection h1 with _ h1
            rw [← h1]
            refine dat_le (HSzs.out _ hgF) (fun y hy => ?_)
            obtain ⟨hyi, hyl⟩ := wls_mem (HP.out.mem_iff.1 (List.mem_of_mem_take hy))
            exact ((HF.out _ (HNm.out.2.2 _ (List.getElem_mem hyi)).1).each _ hyl).len
          have HDl := Hid.of hdl
          have HOv := Hid.of (HLE.out.fl.dat fs'[ws[j].i] (List.getElem_mem hxf))
          have hcs := fcs_get fs' hxf
          obtain ⟨g6, hg6⟩ : ∃ g6, a6 = some ⟨g6, 0, none⟩ := by
            rcases HLE.out.lw.2 with ⟨_, h0⟩ | ⟨g, cap, cur, e1, _⟩
            · omega
            · injection e1 with e1
              exact ⟨g, e1⟩
          subst hg6
          obtain ⟨g5, hg5, hc5⟩ : ∃ g5, a5 = some ⟨g5, 0, none⟩ ∧ fs'.length ≤ c5 := by
            rcases HLE.out.fl.row.2 with ⟨_, h0⟩ | ⟨g, cap, cur, e1, _, _, hc, _⟩
            · omega
            · injection e1 with e1 _ e3
              exact ⟨g, e1, by omega⟩
          subst hg5
          have HRg := Hid.of (show wr.rangeAt g6 (0 + j * 4) (wlc ws[j]) from fun c u hu => by
            have hc : c < 4 := by have := (List.getElem?_eq_some_iff.1 hu).1; simpa [wlc] using this
            have h1 := World.ownsRow.cells HLE.out.lw rfl (j * 4 + c) u ((wcs_get ws hjw hc).trans hu)
            rw [Addr.add_lit] at h1
            rw [show 0 + j * 4 + c = 0 + (j * 4 + c) by omega]
            exact h1)
          have k5 := World.ownsRow.cells HLE.out.fl.row rfl (ws[j].i * 2 + 1) _ hcs.2
          rw [Addr.add_lit, show 0 + (ws[j].i * 2 + 1) = 0 + ws[j].i * 2 + 1 by omega] at k5
          have HK5 := Hid.of k5
          have HG5 := Hid.of (show w.heap.size ≤ g5 from (World.ownsRow.lt HLE.out.fl.row g5 rfl).1)
          have hxfz : (ws[j].i : Int) < (fs.length : Int) := by have := HFs.out.1; omega
          have hxf2 : ws[j].i < fs.length := by have := HFs.out.1; omega
          obtain ⟨x, hx⟩ : ∃ x, ws[j] = x := ⟨_, rfl⟩
          simp only [hx] at HLk HVk HSt HDl HOv HRg HK5 hxfz hxf2
          obtain ⟨gf, hgf⟩ : ∃ gf, fs'[x.i]'(by rw [← hx]; exact hxf) = gf := ⟨_, rfl⟩
          simp only [hgf] at HSt HDl HOv HK5
          have HCs := Hid.of (show (fcs fs')[x.i * 2 + 1]? = some gf.v from by rw [← hgf]; exact (fcs_get fs' _).2)
          have HAll := Hid.of (show ¬ (wr.heap.size = bn ∨ gf.v.ownBlock = some wr.heap.size ∨ wr.heap.size = g5) from by
            have h0 := HLE.out.fr.size
            rintro (h1 | h1 | h1)
            · omega
            · have := (World.ownsRow.lt HOv.out _ h1).2
              omega
            · have := (World.ownsRow.lt HLE.out.fl.row g5 rfl).2
              omega)
          go_wp2_with (with_reducible show wpList _ _ _ ({ dst := _, op := Op.indexAddr 149 _ _, type := _, pos := _, after := _, guard := _ } :: _) _ _; refine Shut.out ?_)
          show wpList _ _ _ _ _ _
          refine wpList_val7' (.pointer (some ⟨g6, 0 + j * 4, none⟩)) rfl (exec_idxLeft j hjl rfl rfl rfl) ?_
          simp only [Act.put, List.setIfInBounds_toArray, List.set_cons_zero, List.set_cons_succ]
          refine wpList_load_mid rfl _ _ rfl g6 (0 + j * 4) rfl _ _ HRg.out Tryz.underlying151 rfl infoLeft4 ?_
          simp only [Act.put, List.setIfInBounds_toArray, List.set_cons_zero, List.set_cons_succ]
          go_wp2_with (with_reducible show wpList _ _ _ ({ dst := _, op := Op.store 151 _ _, type := _, pos := _, after := _, guard := _ } :: _) _ _; refine Shut.out ?_)
          show wpList _ _ _ _ _ _
          refine wpList_store_at rfl 151 _ _ rfl wr.heap.size (at_new wr 151 [.int .i64 0, .int .i64 0, .nilFunc, .int .i64 0]) _ rfl rfl rfl infoLeft4 (by simp [wlc, Value.oneCell']) ?_
          intro w6 hA6 hg6
          have hU6 := ((Up.refl wr).alloc (.cells [.int .i64 0, .int .i64 0, .nilFunc, .int .i64 0].toArray 151)).by hg6 (fun g hg => by have := Option.some.inj hg; omega)
          have HL6 := Hid.of (show LE w w6.drew w.heap.size bn bc cs k0 j q gs ws (some ⟨g5, 0, none⟩) c5 fs' (some ⟨g6, 0, none⟩) c6 from
            ⟨HLE.out.fr.up (hU6.drew), HLE.out.fl.up hU6.drew, HLE.out.ap, HLE.out.fe, ow_up HLE.out.lw hU6.drew, HLE.out.ch.up hU6.drew⟩)
          have HO6 := Hid.of (show Ow w6.drew w.heap.size gf.v gf.ds from ow_up HOv.out hU6.drew)
          have HA6 := Hid.of hA6
          have d3 := hA6.cell (i := 3) rfl
          have hbo := HAll.out
          generalize wr.heap.size = bo at *
          clear hA6 hg6 hU6 HRg HK5 HAll
          simp only [Act.put]
          go_wp2_with (with_reducible show wpList _ _ _ ({ dst := _, op := Op.indexAddr 32 _ _, type := _, pos := _, after := _, guard := _ } :: _) _ _; refine Shut.out ?_)
          show wpList _ _ _ _ _ _
          refine wpList_val7' (.pointer (some ⟨g5, 0 + x.i * 2, none⟩)) rfl (exec_idxFile x.i hxf2 rfl rfl rfl) ?_
          simp only [Act.put, List.setIfInBounds_toArray, List.set_cons_zero, List.set_cons_succ]
          go_wp2
          clear d3
          refine wp_region_held_drew (S := fun w2 => Fr (fun k => k = bn ∨ gf.v.ownBlock = some k ∨ k = g5) w6 w2) (by kernel_rfl) ((Fr.refl _ _).up (Up.refl _).drew) (fun hS => ?_)
          refine wpAnyH_take (i := 0) (oi := { dst := some 63, op := Go.Op.move (Go.Operand.tmp 13), type := 154, pos := "crash.go:56", after := #[], guard := none }) (v := .pointer (some ⟨g5, 0 + x.i * 2, none⟩)) rfl (by kernel_rfl) (by kernel_rfl) (by kernel_rfl) (fun _ _ _ h => h) (Or.inl ⟨by kernel_rfl, ?_⟩) hS ?_
          · intro w5 hSw
            clear hSw hS
            go_simp
          simp only [Act.put, List.setIfInBounds_toArray, List.set_cons_zero, List.set_cons_succ]
          refine wpAnyH_take (i := 1) (oi := { dst := some 64, op := Go.Op.fieldAddr 151 (Go.Operand.tmp 12) 0, type := 0, pos := "crash.go:56", after := #[], guard := none }) (v := .pointer (some ⟨bo, 0, none⟩)) rfl (by kernel_rfl) (by kernel_rfl) (by kernel_rfl) (fun _ _ _ h => h) (Or.inl ⟨by kernel_rfl, ?_⟩) hS ?_
          · intro w5 hSw
            clear hSw hS
            go_simp
          simp only [Act.put, List.setIfInBounds_toArray, List.set_cons_zero, List.set_cons_succ]
          refine wpAnyH_take (i := 2) (oi := { dst := some 65, op := Go.Op.fieldAddr 144 (Go.Operand.tmp 64) 2, type := 0, pos := "crash.go:56", after := #[{ on := 1, ground := Go.Ground.data }], guard := none }) (v := .pointer (some ⟨bo, 2, none⟩)) rfl (by kernel_rfl) (by kernel_rfl) (by kernel_rfl) (fun _ _ _ h => h) (Or.inl ⟨by kernel_rfl, ?_⟩) hS ?_
          · intro w5 hSw
            clear hSw hS
            go_simp
          simp only [Act.put, List.setIfInBounds_toArray, List.set_cons_zero, List.set_cons_succ]
          refine wpAnyH_take (i := 3) (oi := { dst := some 66, op := Go.Op.load 142 (Go.Operand.tmp 65), type := 142, pos := "crash.go:56", after := #[{ on := 2, ground := Go.Ground.data }], guard := none }) (v := .func (.func 97) #[] #[pv x.l.ba, pv x.l.bk]) rfl (by kernel_rfl) (by kernel_rfl) (by kernel_rfl) (fun _ _ _ h => h) (Or.inl ⟨by kernel_rfl, ?_⟩) hS ?_
          · intro w5 hSw
            have h0 := (hSw.at HA6.out hbo).cell (i := 2) rfl
            clear hSw hS
            go_simp
          simp only [Act.put, List.setIfInBounds_toArray, List.set_cons_zero, List.set_cons_succ]
          refine wpAnyH_take (i := 4) (oi := { dst := some 67, op := Go.Op.move (Go.Operand.tmp 13), type := 154, pos := "crash.go:56", after := #[], guard := none }) (v := .pointer (some ⟨g5, 0 + x.i * 2, none⟩)) rfl (by kernel_rfl) (by kernel_rfl) (by kernel_rfl) (fun _ _ _ h => h) (Or.inl ⟨by kernel_rfl, ?_⟩) hS ?_
          · intro w5 hSw
            clear hSw hS
            go_simp
          simp only [Act.put, List.setIfInBounds_toArray, List.set_cons_zero, List.set_cons_succ]
          refine wpAnyH_take (i := 5) (oi := { dst := some 68, op := Go.Op.nilCheck (Go.Operand.tmp 67), type := 0, pos := "crash.go:56", after := #[{ on := 4, ground := Go.Ground.data }], guard := none }) (v := .pointer (some ⟨g5, 0 + x.i * 2, none⟩)) rfl (by kernel_rfl) (by kernel_rfl) (by kernel_rfl) (fun _ _ _ h => h) (Or.inl ⟨by kernel_rfl, ?_⟩) hS ?_
          · intro w5 hSw
            clear hSw hS
            go_simp
          simp only [Act.put, List.setIfInBounds_toArray, List.set_cons_zero, List.set_cons_succ]
          refine wpAnyH_take (i := 6) (oi := { dst := some 69, op := Go.Op.fieldAddr 49 (Go.Operand.tmp 68) 1, type := 0, pos := "crash.go:56", after := #[{ on := 5, ground := Go.Ground.data }], guard := none }) (v := .pointer (some ⟨g5, 0 + x.i * 2 + 1, none⟩)) rfl (by kernel_rfl) (by kernel_rfl) (by kernel_rfl) (fun _ _ _ h => h) (Or.inl ⟨by kernel_rfl, ?_⟩) hS ?_
          · intro w5 hSw
            clear hSw hS
            go_simp
          simp only [Act.put, List.setIfInBounds_toArray, List.set_cons_zero, List.set_cons_succ]
          refine wpAnyH_take (i := 8) (oi := { dst := some 71, op := Go.Op.move (Go.Operand.tmp 1), type := 102, pos := "crash.go:56", after := #[], guard := none }) (v := chv bn bc) rfl (by kernel_rfl) (by kernel_rfl) (by kernel_rfl) (fun _ _ _ h => h) (Or.inl ⟨by kernel_rfl, ?_⟩) hS ?_
          · intro w5 hSw
            clear hSw hS
            go_simp
          simp only [Act.put, List.setIfInBounds_toArray, List.set_cons_zero, List.set_cons_succ]
          refine wpAnyH_take (i := 9) (oi := { dst := some 72, op := Go.Op.fieldAddr 151 (Go.Operand.tmp 12) 0, type := 0, pos := "crash.go:56", after := #[], guard := none }) (v := .pointer (some ⟨bo, 0, none⟩)) rfl (by kernel_rfl) (by kernel_rfl) (by kernel_rfl) (fun _ _ _ h => h) (Or.inl ⟨by kernel_rfl, ?_⟩) hS ?_
          · intro w5 hSw
            clear hSw hS
            go_simp
          simp only [Act.put, List.setIfInBounds_toArray, List.set_cons_zero, List.set_cons_succ]
          refine wpAnyH_take (i := 10) (oi := { dst := some 73, op := Go.Op.fieldAddr 144 (Go.Operand.tmp 72) 1, type := 0, pos := "crash.go:56", after := #[{ on := 9, ground := Go.Ground.data }], guard := none }) (v := .pointer (some ⟨bo, 1, none⟩)) rfl (by kernel_rfl) (by kernel_rfl) (by kernel_rfl) (fun _ _ _ h => h) (Or.inl ⟨by kernel_rfl, ?_⟩) hS ?_
          · intro w5 hSw
            clear hSw hS
            go_simp
          simp only [Act.put, List.setIfInBounds_toArray, List.set_cons_zero, List.set_cons_succ]
          refine wpAnyH_take (i := 11) (oi := { dst := some 74, op := Go.Op.load 3 (Go.Operand.tmp 73), type := 3, pos := "crash.go:56", after := #[{ on := 10, ground := Go.Ground.data }], guard := none }) (v := .int .i64 (x.l.ds.length : Int)) rfl (by kernel_rfl) (by kernel_rfl) (by kernel_rfl) (fun _ _ _ h => h) (Or.inl ⟨by kernel_rfl, ?_⟩) hS ?_
          · intro w5 hSw
            have h0 := (hSw.at HA6.out hbo).cell (i := 1) rfl
            clear hSw hS
            go_simp
          simp only [Act.put, List.setIfInBounds_toArray, List.set_cons_zero, List.set_cons_succ]
          refine wpAnyH_ready (rs := [7, 12]) (by kernel_rfl) (by simp) ?_
          refine AllReadyH.cons (o := { dst := some 70, op := Go.Op.load 41 (Go.Operand.tmp 69), type := 41, pos := "crash.go:56", after := #[{ on := 6, ground := Go.Ground.data }], guard := none }) rfl (fun K hK => ?_) (AllReadyH.cons (o := { dst := some 75, op := Go.Op.call { callee := Go.Callee.value (Go.Operand.tmp 71), args := #[Go.Operand.tmp 74], argTypes := #[3] }, type := 3, pos := "crash.go:56", after := #[{ on := 8, ground := Go.Ground.data }, { on := 11, ground := Go.Ground.data }], guard := none }) rfl (fun K hK => ?_) AllReadyH.nil)
          · rw [if_pos (by kernel_rfl)]
            have k5 : w6.cell? ⟨g5, x.i * 2 + 1, none⟩ = some gf.v := by
              have h1 := World.ownsRow.cells HL6.out.fl.row rfl (x.i * 2 + 1) _ HCs.out
              rw [Addr.add_lit, Nat.zero_add] at h1
              exact h1
            go_simp
            refine hK.out _ _ hS (fun hS => ?_)
            clear hK K k5
            refine wpAnyH_ready (rs := [12]) (by kernel_rfl) (by simp) ?_
            refine AllReadyH.cons (o := { dst := some 75, op := Go.Op.call { callee := Go.Callee.value (Go.Operand.tmp 71), args := #[Go.Operand.tmp 74], argTypes := #[3] }, type := 3, pos := "crash.go:56", after := #[{ on := 8, ground := Go.Ground.data }, { on := 11, ground := Go.Ground.data }], guard := none }) rfl (fun K hK => ?_) AllReadyH.nil
            rw [if_pos (by kernel_rfl)]
            go_simp
            refine (chooser1_walk bn bc (k0 + j) x.l.ds.length cs w6.drew HL6.out.ch (by have := (HLk.out _ HL6.out.fr).len; omega) hcl).mono ?_
            rintro e w7 ⟨rfl, ch7, g7⟩
            dsimp only
            have HC7 := Hid.of ch7
            have HG7 := Hid.of g7
            have HRow7 := Hid.of (World.ownsRow.kept HL6.out.fl.row g7 (.inr (fun e2 => by have := (World.ownsRow.lt HL6.out.fl.row _ e2).1; omega)))
            clear ch7 g7
            refine hK.out _ _ (hS.by HG7.out (fun k hk => .inl (.inl (Option.some.inj hk).symm))) (fun hS => ?_)
            clear hK K
            refine wpAnyH_ready (rs := [13]) (by kernel_rfl) (by simp) ?_
            refine AllReadyH.cons (o := { dst := some 76, op := Go.Op.call { callee := Go.Callee.value (Go.Operand.tmp 66), args := #[Go.Operand.tmp 70, Go.Operand.tmp 75], argTypes := #[41, 3] }, type := 41, pos := "crash.go:56", after := #[{ on := 3, ground := Go.Ground.data }, { on := 7, ground := Go.Ground.data }, { on := 12, ground := Go.Ground.data }, { on := 12, ground := Go.Ground.chain }], guard := none }) rfl (fun K hK => ?_) AllReadyH.nil
            rw [if_pos (by kernel_rfl)]
            go_simp
            have f7 := HL6.out.fr.by HG7.out (fun k hk => .inl (Option.some.inj hk).symm)
            have lk7 := HLk.out _ f7
            refine (write1_part w.heap.size gf.v x.l.vk gf.ds x.l.ds x.l.p x.l.ba x.l.bk (cz cs (k0 + j) x.l.ds.length) w7 (World.ownsRow.kept HO6.out HG7.out (.inr (fun e2 => by have := (World.ownsRow.lt HO6.out _ e2).1; omega))) (Ow.sb lk7.own) (cz_le _ _ _) ?_ (lk7.pa.cell (i := 0) rfl) (lk7.pk.cell (i := 0) rfl) (by have := lk7.len; omega) (by have := HDl.out; omega) (by have := lk7.len; omega) f7.size).mono ?_
            · rcases hvk : x.l.vk.ownBlock with _ | k
              · exact .inl rfl
              · refine .inr (fun e2 => ?_)
                have h1 := HVk.out k hvk
                have h2 := (World.ownsRow.lt HO6.out k e2.symm).1
                omega
            rintro e w8 ⟨v', rfl, o8, g8, f8⟩
            obtain ⟨a8, l8, c8, rfl⟩ : ∃ a l c, v' = .slice a l c := by
              obtain ⟨a, c, h, _⟩ := id (Ow.sb o8)
              exact ⟨a, _, c, h⟩
            dsimp only
            have HS8 := Hid.of (HSt.out w6.drew w7 w8 _ HL6.out HG7.out HC7.out o8 g8 f8)
            have HG8 := Hid.of g8
            have HT8 := Hid.of (World.ownsRow.kept HRow7.out g8 (own_off' HRow7.out (World.ownsRow.kept HO6.out HG7.out (.inr (fun e2 => by have := (World.ownsRow.lt HO6.out _ e2).1; omega))) (by decide)))
            clear f7 lk7 o8 g8 f8
            refine hK.out _ _ (hS.by HG8.out (fun k hk => .inl (.inr (.inl hk)))) (fun hS => ?_)
            clear hK K
            refine wpAnyH_take (i := 14) (oi := { dst := some 77, op := Go.Op.nilCheck (Go.Operand.tmp 63), type := 0, pos := "crash.go:56", after := #[{ on := 0, ground := Go.Ground.data }, { on := 0, ground := Go.Ground.phase }, { on := 1, ground := Go.Ground.phase }, { on := 2, ground := Go.Ground.phase }, { on := 3, ground := Go.Ground.phase }, { on := 4, ground := Go.Ground.phase }, { on := 5, ground := Go.Ground.phase }, { on := 6, ground := Go.Ground.phase }, { on := 7, ground := Go.Ground.phase }, { on := 8, ground := Go.Ground.phase }, { on := 9, ground := Go.Ground.phase }, { on := 10, ground := Go.Ground.phase }, { on := 11, ground := Go.Ground.phase }, { on := 12, ground := Go.Ground.phase }, { on := 13, ground := Go.Ground.phase }], guard := none }) (v := .pointer (some ⟨g5, 0 + x.i * 2, none⟩)) rfl (by kernel_rfl) (by kernel_rfl) (by kernel_rfl) (fun _ _ _ h => h) (Or.inl ⟨by kernel_rfl, ?_⟩) hS ?_
            · intro w5 hSw
              clear hSw hS
              go_simp
            simp only [Act.put, List.setIfInBounds_toArray, List.set_cons_zero, List.set_cons_succ]
            refine wpAnyH_take (i := 15) (oi := { dst := some 78, op := Go.Op.fieldAddr 49 (Go.Operand.tmp 77) 1, type := 0, pos := "crash.go:56", after := #[{ on := 14, ground := Go.Ground.data }, { on := 0, ground := Go.Ground.phase }, { on := 1, ground := Go.Ground.phase }, { on := 2, ground := Go.Ground.phase }, { on := 3, ground := Go.Ground.phase }, { on := 4, ground := Go.Ground.phase }, { on := 5, ground := Go.Ground.phase }, { on := 6, ground := Go.Ground.phase }, { on := 7, ground := Go.Ground.phase }, { on := 8, ground := Go.Ground.phase }, { on := 9, ground := Go.Ground.phase }, { on := 10, ground := Go.Ground.phase }, { on := 11, ground := Go.Ground.phase }, { on := 12, ground := Go.Ground.phase }, { on := 13, ground := Go.Ground.phase }], guard := none }) (v := .pointer (some ⟨g5, 0 + x.i * 2 + 1, none⟩)) rfl (by kernel_rfl) (by kernel_rfl) (by kernel_rfl) (fun _ _ _ h => h) (Or.inl ⟨by kernel_rfl, ?_⟩) hS ?_
            · intro w5 hSw
              clear hSw hS
              go_simp
            simp only [Act.put, List.setIfInBounds_toArray, List.set_cons_zero, List.set_cons_succ]
            refine wpAnyH_ready (rs := [16]) (by kernel_rfl) (by simp) ?_
            refine AllReadyH.cons (o := { dst := none, op := Go.Op.store 41 (Go.Operand.tmp 78) (Go.Operand.tmp 76), type := 0, pos := "crash.go:56", after := #[{ on := 15, ground := Go.Ground.data }, { on := 13, ground := Go.Ground.data }, { on := 13, ground := Go.Ground.chain }, { on := 0, ground := Go.Ground.phase }, { on := 1, ground := Go.Ground.phase }, { on := 2, ground := Go.Ground.phase }, { on := 3, ground := Go.Ground.phase }, { on := 4, ground := Go.Ground.phase }, { on := 5, ground := Go.Ground.phase }, { on := 6, ground := Go.Ground.phase }, { on := 7, ground := Go.Ground.phase }, { on := 8, ground := Go.Ground.phase }, { on := 9, ground := Go.Ground.phase }, { on := 10, ground := Go.Ground.phase }, { on := 11, ground := Go.Ground.phase }, { on := 12, ground := Go.Ground.phase }, { on := 13, ground := Go.Ground.phase }], guard := none }) rfl (fun K hK => ?_) AllReadyH.nil
            rw [if_pos (by kernel_rfl)]
            have t9 := World.ownsRow.frozenAt HT8.out (x.i * 2 + 1)
            have c9 := World.ownsRow.cells HT8.out rfl (x.i * 2 + 1) _ HCs.out
            rw [Addr.add_lit, Nat.zero_add] at c9
            have g9 := (World.ownsRow.stored HT8.out (x.i * 2 + 1) (.slice a8 l8 c8)).2
            go_simp
            refine hK.out _ _ (hS.by g9 (fun k hk => .inl (.inr (.inr (Option.some.inj hk).symm)))) (fun hS => ?_)
            clear hK K hS c9 t9 g9
            refine wpAnyH_done (by kernel_rfl) ?_ _
            obtain ⟨g, eg, hL9⟩ := HS8.out
            injection eg with eg
            injection eg with eg
            subst eg
            have HL9 := Hid.of hL9
            clear hL9 HS8 HT8 HRow7
            go_wp2
            go_roundw
            all_goals first
              | exact ⟨j + 1, by go_num, by omega, Hid.of ⟨_, by rw [List.length_set]; exact HFs.out.1, HL9.out⟩⟩
              | (simp [intOf]; omega)
          · rw [if_pos (by kernel_rfl)]
            go_simp
            refine (chooser1_walk bn bc (k0 + j) x.l.ds.length cs w6.drew HL6.out.ch (by have := (HLk.out _ HL6.out.fr).len; omega) hcl).mono ?_
            rintro e w7 ⟨rfl, ch7, g7⟩
            dsimp only
            have HC7 := Hid.of ch7
            have HG7 := Hid.of g7
            have HRow7 := Hid.of (World.ownsRow.kept HL6.out.fl.row g7 (.inr (fun e2 => by have := (World.ownsRow.lt HL6.out.fl.row _ e2).1; omega)))
            clear ch7 g7
            refine hK.out _ _ (hS.by HG7.out (fun k hk => .inl (.inl (Option.some.inj hk).symm))) (fun hS => ?_)
            clear hK K
            refine wpAnyH_ready (rs := [7]) (by kernel_rfl) (by simp) ?_
            refine AllReadyH.cons (o := { dst := some 70, op := Go.Op.load 41 (Go.Operand.tmp 69), type := 41, pos := "crash.go:56", after := #[{ on := 6, ground := Go.Ground.data }], guard := none }) rfl (fun K hK => ?_) AllReadyH.nil
            rw [if_pos (by kernel_rfl)]
            have k5 : w7.cell? ⟨g5, x.i * 2 + 1, none⟩ = some gf.v := by
              have h1 := World.ownsRow.cells HRow7.out rfl (x.i * 2 + 1) _ HCs.out
              rw [Addr.add_lit, Nat.zero_add] at h1
              exact h1
            go_simp
            refine hK.out _ _ hS (fun hS => ?_)
            clear hK K k5
            refine wpAnyH_ready (rs := [13]) (by kernel_rfl) (by simp) ?_
            refine AllReadyH.cons (o := { dst := some 76, op := Go.Op.call { callee := Go.Callee.value (Go.Operand.tmp 66), args := #[Go.Operand.tmp 70, Go.Operand.tmp 75], argTypes := #[41, 3] }, type := 41, pos := "crash.go:56", after := #[{ on := 3, ground := Go.Ground.data }, { on := 7, ground := Go.Ground.data }, { on := 12, ground := Go.Ground.data }, { on := 12, ground := Go.Ground.chain }], guard := none }) rfl (fun K hK => ?_) AllReadyH.nil
            rw [if_pos (by kernel_rfl)]
            go_simp
            have f7 := HL6.out.fr.by HG7.out (fun k hk => .inl (Option.some.inj hk).symm)
            have lk7 := HLk.out _ f7
            refine (write1_part w.heap.size gf.v x.l.vk gf.ds x.l.ds x.l.p x.l.ba x.l.bk (cz cs (k0 + j) x.l.ds.length) w7 (World.ownsRow.kept HO6.out HG7.out (.inr (fun e2 => by have := (World.ownsRow.lt HO6.out _ e2).1; omega))) (Ow.sb lk7.own) (cz_le _ _ _) ?_ (lk7.pa.cell (i := 0) rfl) (lk7.pk.cell (i := 0) rfl) (by have := lk7.len; omega) (by have := HDl.out; omega) (by have := lk7.len; omega) f7.size).mono ?_
            · rcases hvk : x.l.vk.ownBlock with _ | k
              · exact .inl rfl
              · refine .inr (fun e2 => ?_)
                have h1 := HVk.out k hvk
                have h2 := (World.ownsRow.lt HO6.out k e2.symm).1
                omega
            rintro e w8 ⟨v', rfl, o8, g8, f8⟩
            obtain ⟨a8, l8, c8, rfl⟩ : ∃ a l c, v' = .slice a l c := by
              obtain ⟨a, c, h, _⟩ := id (Ow.sb o8)
              exact ⟨a, _, c, h⟩
            dsimp only
            have HS8 := Hid.of (HSt.out w6.drew w7 w8 _ HL6.out HG7.out HC7.out o8 g8 f8)
            have HG8 := Hid.of g8
            have HT8 := Hid.of (World.ownsRow.kept HRow7.out g8 (own_off' HRow7.out (World.ownsRow.kept HO6.out HG7.out (.inr (fun e2 => by have := (World.ownsRow.lt HO6.out _ e2).1; omega))) (by decide)))
            clear f7 lk7 o8 g8 f8
            refine hK.out _ _ (hS.by HG8.out (fun k hk => .inl (.inr (.inl hk)))) (fun hS => ?_)
            clear hK K
            refine wpAnyH_take (i := 14) (oi := { dst := some 77, op := Go.Op.nilCheck (Go.Operand.tmp 63), type := 0, pos := "crash.go:56", after := #[{ on := 0, ground := Go.Ground.data }, { on := 0, ground := Go.Ground.phase }, { on := 1, ground := Go.Ground.phase }, { on := 2, ground := Go.Ground.phase }, { on := 3, ground := Go.Ground.phase }, { on := 4, ground := Go.Ground.phase }, { on := 5, ground := Go.Ground.phase }, { on := 6, ground := Go.Ground.phase }, { on := 7, ground := Go.Ground.phase }, { on := 8, ground := Go.Ground.phase }, { on := 9, ground := Go.Ground.phase }, { on := 10, ground := Go.Ground.phase }, { on := 11, ground := Go.Ground.phase }, { on := 12, ground := Go.Ground.phase }, { on := 13, ground := Go.Ground.phase }], guard := none }) (v := .pointer (some ⟨g5, 0 + x.i * 2, none⟩)) rfl (by kernel_rfl) (by kernel_rfl) (by kernel_rfl) (fun _ _ _ h => h) (Or.inl ⟨by kernel_rfl, ?_⟩) hS ?_
            · intro w5 hSw
              clear hSw hS
              go_simp
            simp only [Act.put, List.setIfInBounds_toArray, List.set_cons_zero, List.set_cons_succ]
            refine wpAnyH_take (i := 15) (oi := { dst := some 78, op := Go.Op.fieldAddr 49 (Go.Operand.tmp 77) 1, type := 0, pos := "crash.go:56", after := #[{ on := 14, ground := Go.Ground.data }, { on := 0, ground := Go.Ground.phase }, { on := 1, ground := Go.Ground.phase }, { on := 2, ground := Go.Ground.phase }, { on := 3, ground := Go.Ground.phase }, { on := 4, ground := Go.Ground.phase }, { on := 5, ground := Go.Ground.phase }, { on := 6, ground := Go.Ground.phase }, { on := 7, ground := Go.Ground.phase }, { on := 8, ground := Go.Ground.phase }, { on := 9, ground := Go.Ground.phase }, { on := 10, ground := Go.Ground.phase }, { on := 11, ground := Go.Ground.phase }, { on := 12, ground := Go.Ground.phase }, { on := 13, ground := Go.Ground.phase }], guard := none }) (v := .pointer (some ⟨g5, 0 + x.i * 2 + 1, none⟩)) rfl (by kernel_rfl) (by kernel_rfl) (by kernel_rfl) (fun _ _ _ h => h) (Or.inl ⟨by kernel_rfl, ?_⟩) hS ?_
            · intro w5 hSw
              clear hSw hS
              go_simp
            simp only [Act.put, List.setIfInBounds_toArray, List.set_cons_zero, List.set_cons_succ]
            refine wpAnyH_ready (rs := [16]) (by kernel_rfl) (by simp) ?_
            refine AllReadyH.cons (o := { dst := none, op := Go.Op.store 41 (Go.Operand.tmp 78) (Go.Operand.tmp 76), type := 0, pos := "crash.go:56", after := #[{ on := 15, ground := Go.Ground.data }, { on := 13, ground := Go.Ground.data }, { on := 13, ground := Go.Ground.chain }, { on := 0, ground := Go.Ground.phase }, { on := 1, ground := Go.Ground.phase }, { on := 2, ground := Go.Ground.phase }, { on := 3, ground := Go.Ground.phase }, { on := 4, ground := Go.Ground.phase }, { on := 5, ground := Go.Ground.phase }, { on := 6, ground := Go.Ground.phase }, { on := 7, ground := Go.Ground.phase }, { on := 8, ground := Go.Ground.phase }, { on := 9, ground := Go.Ground.phase }, { on := 10, ground := Go.Ground.phase }, { on := 11, ground := Go.Ground.phase }, { on := 12, ground := Go.Ground.phase }, { on := 13, ground := Go.Ground.phase }], guard := none }) rfl (fun K hK => ?_) AllReadyH.nil
            rw [if_pos (by kernel_rfl)]
            have t9 := World.ownsRow.frozenAt HT8.out (x.i * 2 + 1)
            have c9 := World.ownsRow.cells HT8.out rfl (x.i * 2 + 1) _ HCs.out
            rw [Addr.add_lit, Nat.zero_add] at c9
            have g9 := (World.ownsRow.stored HT8.out (x.i * 2 + 1) (.slice a8 l8 c8)).2
            go_simp
            refine hK.out _ _ (hS.by g9 (fun k hk => .inl (.inr (.inr (Option.some.inj hk).symm)))) (fun hS => ?_)
            clear hK K hS c9 t9 g9
            refine wpAnyH_done (by kernel_rfl) ?_ _
            obtain ⟨g, eg, hL9⟩ := HS8.out
            injection eg with eg
            injection eg with eg
            subst eg
            have HL9 := Hid.of hL9
            clear hL9 HS8 HT8 HRow7
            go_wp2
            go_roundw
            all_goals first
              | exact ⟨j + 1, by go_num, by omega, Hid.of ⟨_, by rw [List.length_set]; exact HFs.out.1, HL9.out⟩⟩
              | (simp [intOf]; omega)
        · have hjz : ¬ (j : Int) < (q : Int) := by omega
          have HEx := Hid.of (show (fs'.map fun g => (g.nm.data.toList, g.ds)) = lfs cs k0 gs ws by
            rw [HLE.out.fe, List.take_of_length_le (by have := HWl.out; omega)])
          have hfs2 := HFs.out.1
          go_wp2
          go_ret
          exact ⟨a5, fs', c5, by rw [hfs2]; rfl, HLE.out.fl, HLE.out.fr, gs, HNm.out.1, (fun l => by have := HNm.out.2.1 l; simpa using this), (fun a b hp => HNm.out.2.2 (a, b) hp), ws, HP.out, HSd.out, HEx.out⟩
    · intro x cv kl y w4 cnt4 hkey hlk hv hat hrg4 hlt hgr hsz hen
      obtain rfl := keyS_inv hkey
      have hhas := rng_has HQ.out.rng hlk
      obtain ⟨fb, hfb⟩ : ∃ fb, m x.data.toList = some fb := by
        have h1 := (HI.out x.data.toList).1
        rw [hhas] at h1
        exact Option.isSome_iff_exists.1 h1.symm
      have hy : y.1 = fd fb := (hat (.lit (.bool false))).symm.trans ((HI.out x.data.toList).2 fb hfb _)
      obtain rfl : cv = some ⟨fb, 0, none⟩ := by
        obtain ⟨y1, y2⟩ := y
        have hy : y1 = fd fb := hy
        subst hy
        have := rp_inv hv
        injection this
      obtain ⟨f, hfF, rfl⟩ := HMm.out _ _ hfb
      have hU4 := HQ.out.up.by hgr (fun k hk => by have := Option.some.inj hk; have := HR0.out; omega)
      have hit := fun (e : TypeId) (mm : Nat) (v : Value) (n2 : Nat) (xs : List Value) (ho : wr0.ownsRow w.heap.size e mm v n2 xs) => own_iter HQ.out.rng ho
      have HFo := Hid.of ((HF.out f hfF).up hU4)
      have HLK := Hid.of (show w4.ranges Tryz.prog 9 rp Lf r n dm (fun z => left z && !z.sameKey (kS x)) cnt4 ∧ Up w w4 ∧ FsO w4 w.heap.size a5 fs c5 ∧ w4.ownsRow w.heap.size 151 4 (.slice a6 q c6) q (wcs (wls gs)) from
        ⟨hrg4, hU4, fso_by HQ.out.fl hgr (fun e mm v n2 xs _ ho => .inr (fun e2 => (hit e mm v n2 xs ho).2 e2.symm)), World.ownsRow.kept HQ.out.wr hgr (.inr (fun e2 => (hit _ _ _ _ _ HQ.out.wr).2 e2.symm))⟩)
      have HQ2 := Hid.of (And.intro HQ.out.fe (And.intro HQ.out.wq (And.intro HQ.out.nd (And.intro HQ.out.mem (And.intro HQ.out.of (And.intro HQ.out.cn HQ.out.ap))))))
      have HX := Hid.of (And.intro hlk (And.intro hfb (And.intro hlt (And.intro hfF HQ.out.rng.left_eq))))
      have hfl : fs.length = gs.length := by have := congrArg List.length HQ.out.fe; simpa using this
      have HFl := Hid.of (And.intro hfl trivial)
      have hfll : fs.length ≤ 1000000 := by have := HQ.out.cn; omega
      have hgl : gs.length ≤ 1000000 := by have := HQ.out.cn; omega
      have hql : q ≤ 100000 := by have := HQ.out.wq; have := wls_le HQ.out.of (nodup_b HQ.out.of HQ.out.nd hinj); omega
      have hlol : f.lo.length ≤ 100000 := by have := lsd_mem hfF; omega
      have hfw : (wls gs).length + f.lo.length ≤ 100000 := by
        have hof : ∀ p ∈ gs ++ [(x.data.toList, f)], p.2 ∈ F ∧ m p.1 = some p.2.b := fun p hp => by
          rcases List.mem_append.1 hp with hp | hp
          · exact HQ.out.of p hp
          · obtain rfl := List.mem_singleton.1 hp
            exact ⟨hfF, hfb⟩
        have hnd : ((gs ++ [(x.data.toList, f)]).map (·.1)).Nodup := by
          rw [List.map_append, List.nodup_append]
          refine ⟨HQ.out.nd, by simp, fun a ha b hb e => ?_⟩
          simp only [List.map_cons, List.map_nil, List.mem_singleton] at hb
          have h9 := (HQ.out.mem a).1 ha
          rw [e, hb] at h9
          rw [show (Lit.string x.data.toList) = kS x from rfl, hlk] at h9
          exact absurd h9.2 (by decide)
        have := wls_le hof (nodup_b hof hnd hinj)
        rw [wls_snoc, List.length_append, List.length_map] at this
        simp only at this
        omega
      clear hkey hlk hv hat hrg4 hlt hgr hsz hhas hfb hy HQ hit hfF hfl
      obtain ⟨ag, cg, hvo⟩ : ∃ ag cg, f.vo = .slice ag f.lo.length cg := by
        rcases HFo.out.loose.2 with ⟨e1, h0⟩ | ⟨g, cap, cur, e1, _⟩
        · exact ⟨none, 0, by rw [e1, h0]⟩
        · exact ⟨_, cap, e1⟩
      have c2 := HFo.out.file.cell (i := 2) rfl
      rw [hvo] at c2
      have HVo := Hid.of hvo
      clear hvo
      simp only [Act.put, List.setIfInBounds_toArray, List.set_cons_zero, List.set_cons_succ]
      go_wp2
      go_loopw [6, 29] (fun v6 v29 wq => ∃ j : Nat, v29 = .int .i64 (j : Int) ∧ j ≤ f.lo.length ∧ ∃ a6 q c6, v6 = .slice a6 q c6 ∧ Hid (wq.ranges Tryz.prog 9 rp Lf r n dm (fun z => left z && !z.sameKey (kS x)) cnt4 ∧ Up w wq ∧ FsO wq w.heap.size a5 fs c5 ∧ wq.ownsRow w.heap.size 151 4 (.slice a6 q c6) q (wcs (wls gs ++ (f.lo.take j).map fun l => ⟨fs.length, l⟩)) ∧ (wls gs ++ (f.lo.take j).map fun l => (⟨fs.length, l⟩ : WL)).length = q)) (fun _ v29 _ => f.lo.length - (intOf v29).toNat)
      case atStart => exact ⟨0, rfl, by omega, a6, q, c6, rfl, Hid.of ⟨HLK.out.1, HLK.out.2.1, HLK.out.2.2.1, by simpa using HLK.out.2.2.2, by simpa using HQ2.out.2.1⟩⟩
      case round =>
        clear hen
        obtain ⟨j, rfl, hj, a6, q, c6, rfl, hQj⟩ := hrel
        have HQj := Hid.of hQj.out
        clear hQj
        have hq2 : q ≤ 100000 := by
          have h1 := HQj.out.2.2.2.2
          rw [List.length_append, List.length_map, List.length_take] at h1
          omega
        by_cases hjl : j < f.lo.length
        · have hjz : (j : Int) < (f.lo.length : Int) := by omega
          have hFw := (HF.out f HX.out.2.2.2.1).up HQj.out.2.1
          obtain ⟨gl, cl, evo, hcl, k1, k2, k3⟩ := loose_cells hFw.loose hjl
          rw [HVo.out] at evo
          injection evo with e1 _ e3
          subst e1 e3
          have HR := Hid.of (range3 (off := 0 + j * 3) (by rw [show 0 + j * 3 = 3 * j by omega]; exact k1) (by rw [show 0 + j * 3 + 1 = 3 * j + 1 by omega]; exact k2) (by rw [show 0 + j * 3 + 2 = 3 * j + 2 by omega]; exact k3))
          have HTk := Hid.of (show wls gs ++ (f.lo.take (j + 1)).map (fun l => (⟨fs.length, l⟩ : WL)) = (wls gs ++ (f.lo.take j).map fun l => (⟨fs.length, l⟩ : WL)) ++ [⟨fs.length, f.lo[j]⟩] by
            rw [List.take_succ_eq_append_getElem hjl, List.map_append, ← List.append_assoc]; rfl)
          obtain ⟨lw, hlw⟩ : ∃ lw, f.lo[j] = lw := ⟨_, rfl⟩
          rw [hlw] at HR HTk
          clear k1 k2 k3 hlw hFw hcl
          go_wp2_with (with_reducible show wpList _ _ _ ({ dst := _, op := Op.indexAddr 93 _ _, type := _, pos := _, after := _, guard := _ } :: _) _ _; refine Shut.out ?_)
          show wpList _ _ _ _ _ _
          refine wpList_val7' (.pointer (some ⟨gl, 0 + j * 3, none⟩)) rfl (exec_idxLoose j hjl rfl rfl rfl) ?_
          simp only [Act.put, List.setIfInBounds_toArray, List.set_cons_zero, List.set_cons_succ]
          refine wpList_load_mid rfl _ _ rfl gl (0 + j * 3) rfl _ _ HR.out Tryz.underlying144 rfl infoLoose3 ?_
          simp only [Act.put, List.setIfInBounds_toArray, List.set_cons_zero, List.set_cons_succ]
          go_wp2_with (with_reducible show wpList _ _ _ ({ dst := _, op := Op.store 144 _ _, type := _, pos := _, after := _, guard := _ } :: _) _ _; refine Shut.out ?_)
          show wpList _ _ _ _ _ _
          refine wpList_store_at rfl 144 _ _ rfl wr.heap.size (at_new wr 144 [.int .i64 0, .int .i64 0, .nilFunc]) _ rfl rfl rfl infoLoose3 (by simp [Value.oneCell']) ?_
          intro w6 hA6 hg6
          have hU6 := ((Up.refl wr).alloc (.cells [.int .i64 0, .int .i64 0, .nilFunc].toArray 144)).by hg6 (fun g hg => by have := Option.some.inj hg; omega)
          have HK6 := Hid.of (show w6.ranges Tryz.prog 9 rp Lf r n dm (fun z => left z && !z.sameKey (kS x)) cnt4 ∧ Up w w6 ∧ FsO w6 w.heap.size a5 fs c5 ∧ w6.ownsRow w.heap.size 151 4 (.slice a6 q c6) q (wcs (wls gs ++ (f.lo.take j).map fun l => ⟨fs.length, l⟩)) from ⟨rng_up HQj.out.1 hU6, HQj.out.2.1.trans hU6, HQj.out.2.2.1.up hU6, ow_up HQj.out.2.2.2.1 hU6⟩)
          have d0 := hA6.cell (i := 0) rfl
          have d1 := hA6.cell (i := 1) rfl
          have d2 := hA6.cell (i := 2) rfl
          generalize wr.heap.size = bo at *
          clear hA6 hg6 hU6 HR
          simp only [Act.put]
          go_wp2_with (with_reducible show wpList _ _ _ ({ dst := _, op := Op.call { callee := Callee.builtin Builtin.append, args := _, argTypes := _ }, type := _, pos := _, after := _, guard := _ } :: _) _ _; refine Shut.out ?_)
          show wpList _ _ _ _ _ _
          refine wpList_appLeft (w := w6) (N := w.heap.size) rfl _ _ rfl a6 c6 _ ⟨fs.length, lw⟩ HQj.out.2.2.2.2 rfl rfl HK6.out.2.2.2 HK6.out.2.1.size (by omega) ?_
          intro ax2 cx2 w7 o7 g7
          have HK7 := Hid.of (show w7.ranges Tryz.prog 9 rp Lf r n dm (fun z => left z && !z.sameKey (kS x)) cnt4 ∧ Up w w7 ∧ FsO w7 w.heap.size a5 fs c5 ∧ w7.ownsRow w.heap.size 151 4 (.slice ax2 (q + 1) cx2) (q + 1) (wcs (wls gs ++ (f.lo.take (j + 1)).map fun l => ⟨fs.length, l⟩)) ∧ (wls gs ++ (f.lo.take (j + 1)).map fun l => (⟨fs.length, l⟩ : WL)).length = q + 1 from by
            have hit := own_iter HK6.out.1 HK6.out.2.2.2
            refine ⟨World.ranges.kept HK6.out.1 g7 hit.1 hit.2, HK6.out.2.1.by g7 (fun k hk => (World.ownsRow.lt HK6.out.2.2.2 k hk).1), fso_by HK6.out.2.2.1 g7 (fun e mm v n2 xs he ho => own_off' ho HK6.out.2.2.2 (by rcases he with rfl | rfl <;> decide)), ?_, ?_⟩
            · rw [HTk.out]; exact o7
            · rw [HTk.out, List.length_append, HQj.out.2.2.2.2]; rfl)
          clear o7 g7 d0 d1 d2
          simp only [Act.put, List.setIfInBounds_toArray, List.set_cons_zero, List.set_cons_succ]
          go_wp2
          go_roundw
          all_goals first
            | exact ⟨j + 1, by go_num, by omega, ax2, q + 1, cx2, rfl, HK7⟩
            | (simp [intOf]; omega)
        · have hjz : ¬ (j : Int) < (f.lo.length : Int) := by omega
          rw [show f.lo.take j = f.lo from List.take_of_length_le (by omega)] at HQj
          have hFw := (HF.out f HX.out.2.2.2.1).up HQj.out.2.1
          have e1 := hFw.file.cell (i := 1) rfl
          have HCn := Hid.of (Clone_walk f.vl f.lb wr (Ow.sb hFw.last) (by have := HSzs.out f HX.out.2.2.2.1; omega))
          clear hFw
          go_wp2_with fail
          refine HCn.out.mono ?_
          rintro e w8 ⟨v8, rfl, o8, u8⟩
          obtain ⟨a8, c8, rfl, _⟩ := id (Ow.sb o8)
          have HO8 := Hid.of (show Ow w8 w.heap.size (.slice a8 f.lb.length c8) f.lb from ow_base o8 HQj.out.2.1.size)
          have HK8 := Hid.of (show w8.ranges Tryz.prog 9 rp Lf r n dm (fun z => left z && !z.sameKey (kS x)) cnt4 ∧ Up w w8 ∧ FsO w8 w.heap.size a5 fs c5 ∧ w8.ownsRow w.heap.size 151 4 (.slice a6 q c6) q (wcs (wls gs ++ f.lo.map fun l => ⟨fs.length, l⟩)) from ⟨rng_up HQj.out.1 u8, HQj.out.2.1.trans u8, HQj.out.2.2.1.up u8, ow_up HQj.out.2.2.2.1 u8⟩)
          have HB8 := Hid.of (show ∀ g ∈ fs, ∀ k, g.v.ownBlock = some k → (Value.slice a8 f.lb.length c8).ownBlock ≠ some k from fun g hg k hk e => by
            have h1 := (World.ownsRow.lt (HQj.out.2.2.1.dat g hg) k hk).2
            have h2 := (World.ownsRow.lt o8 k e).1
            omega)
          clear o8 u8 HCn e1
          dsimp only
          go_wp2_with (with_reducible show wpList _ _ _ ({ dst := _, op := Op.call { callee := Callee.builtin Builtin.append, args := _, argTypes := _ }, type := _, pos := _, after := _, guard := _ } :: _) _ _; refine Shut.out ?_)
          show wpList _ _ _ _ _ _
          refine wpList_appFile (w := w8) (N := w.heap.size) rfl _ _ rfl a5 c5 fs ⟨x, .slice a8 f.lb.length c8, f.lb⟩ rfl rfl rfl HK8.out.2.2.1 HO8.out HK8.out.2.1.size (by omega) ?_
          intro ax2 cx2 w9 f9 u9 g9
          have HK9 := Hid.of (show LK w w9 w.heap.size Lf r n dm (fun z => left z && !z.sameKey (kS x)) cnt4 m F (gs ++ [(x.data.toList, f)]) ax2 cx2 (fs ++ [⟨x, .slice a8 f.lb.length c8, f.lb⟩]) a6 q c6 from by
            have hit := own_iter HK8.out.1 HK8.out.2.2.1.row
            obtain ⟨q1, q2, q3, q4, q5, q6, q7⟩ := HQ2.out
            obtain ⟨x1, x2, x3, x4, _⟩ := HX.out
            have esn : wls (gs ++ [(x.data.toList, f)]) = wls gs ++ f.lo.map fun l => ⟨fs.length, l⟩ := by rw [wls_snoc, HFl.out.1]
            have hnew : x.data.toList ∉ gs.map (·.1) := fun hm => by
              have h9 := ((q4 _).1 hm).2
              rw [show (Lit.string x.data.toList) = kS x from rfl, x1] at h9
              cases h9
            refine ⟨World.ranges.kept HK8.out.1 g9 hit.1 hit.2, u9 w HK8.out.2.1 (Nat.le_refl _), f9, by rw [List.map_append, List.map_append, q1]; rfl, ?_, ?_, ?_, fun l => ?_, fun p hp => ?_, ?_, ?_⟩
            · rw [esn]
              exact World.ownsRow.kept HK8.out.2.2.2 g9 (own_off' HK8.out.2.2.2 HK8.out.2.2.1.row (by decide))
            · rw [esn]
              exact HQj.out.2.2.2.2
            · rw [List.map_append, List.nodup_append]
              exact ⟨q3, by simp, fun a ha b hb e => hnew (by simp only [List.map_cons, List.map_nil, List.mem_singleton] at hb; rw [← hb, ← e]; exact ha)⟩
            · rw [List.map_append, List.mem_append, q4 l]
              by_cases hl : l = x.data.toList
              · subst hl
                have hs : (Lit.string x.data.toList).sameKey (kS x) = true := WideAt.sameKey_self (by simp [WideAt.IsKeyLit])
                simp [hs, x2]
              · have hs : (Lit.string l).sameKey (kS x) = false := by
                  cases hh : (Lit.string l).sameKey (kS x) with
                  | false => rfl
                  | true => exact absurd ((WideAt.sameKey_iff (by simp [WideAt.IsKeyLit])).1 hh) (str_ne hl)
                simp [hs, hl]
            · rcases List.mem_append.1 hp with hp | hp
              · exact q5 p hp
              · obtain rfl := List.mem_singleton.1 hp
                exact ⟨x4, x2⟩
            · rw [List.length_append]
              simp only [List.length_singleton]
              omega
            · rw [List.pairwise_append]
              exact ⟨q7, List.pairwise_singleton _ _, fun g hg h hh k hk => by
                obtain rfl := List.mem_singleton.1 hh
                exact HB8.out g hg k hk⟩)
          have HMs := Hid.of (show w9.rangeLeft Lf r < wr0.rangeLeft Lf r from by
            rw [HK9.out.rng.left_eq, HX.out.2.2.2.2]
            exact HX.out.2.2.1)
          clear f9 u9 g9 HK8 HO8
          simp only [Act.put, List.setIfInBounds_toArray, List.set_cons_zero, List.set_cons_succ]
          go_wp2
          go_roundw
          all_goals first
            | exact ⟨ax2, cx2, _, a6, q, c6, gs ++ [(x.data.toList, f)], _, cnt4, by rw [List.length_append]; rfl, rfl, HK9⟩
            | exact HMs.out
end Go.Proofs.YtaibjeehjhlicaaGreatDoor
