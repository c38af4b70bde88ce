import Derived.Test.YtdlfkdehfenemaaAi
namespace Go.Proofs.Ytdlfkdehfenemaa
open Go.RowKit Go.Conc TextNum
theorem wp_app {P : Program} {o : Oper} {a : Act} {w w' : World} {K : Act → World → Prop} {Q : Exit → Act → World → Prop} {s x : Operand} {t : TypeId} {v y v' : Value}
    (ho : o.op = .call { callee := .builtin .append, args := #[s, x], argTypes := #[t, t] }) (hs : a.eval s = v) (hx : a.eval x = y) (hr : (Builtin.append_ #[t, t] o.type #[v, y]).run P w = .ok v' w') (h : K (a.put o.dst v') w') : o.wp P a w K Q := by
  unfold Oper.wp execOp
  simp only [ho, resolve, invoke, builtin, Sem.run_bind, Sem.run_pure, Result.andThen_ok, List.map_toArray, List.map_cons, List.map_nil, hs, hx, hr]
  exact h
theorem due_le (pd : List PC) (t : Nat) : (due pd t).length ≤ pd.length := List.length_filter_le _ _
/-- one more is on its way to an open lane -/
theorem NOk.count1 {w : World} {S : NS} (h : NOk w S) {i : Nat} {l : LC} (hl : S.ls[i]? = some l) (ho : l.sh = false) {w1 : World} {la : Nat} (hb : w.grownBy w1 (some S.pb)) (hr : At w1 S.pb 87 (lcs (S.ls.set i { l with la := la }))) :
    NOk w1 (wLs S i { l with la := la }) := by
  have hx := h.chs l (get_mem hl)
  have hne := at_notchan h.row hx
  have hf : Fr (fun k => k = S.pb ∨ k = l.c) w w1 := (Fr.refl _ w).by hb (fun g hg => .inl (.inl (Option.some.inj hg).symm))
  refine h.lane hl rfl hr ?_ hf (fun m hm => ?_)
  · rw [hb.block l.c (lt_of_at hx) (fun e => hne (Option.some.inj e).symm), hx]
    simp [chn, ho]
  · have hm1 := h.ms m (List.mem_append.2 (.inl (List.mem_flatMap.2 ⟨l, get_mem hl, hm⟩)))
    refine World.ownsRow.kept hm1 hb (.inr (fun e => ?_))
    have t1 := row_tag hm1 e
    rw [h.row.tag] at t1; cases t1
set_option maxRecDepth 100000 in
theorem post_now (w : World) (S : NS) (i : Nat) (l : LC) (m : Msg) (h : NOk w S) (hl : S.ls[i]? = some l) (ho : l.sh = false) (hm : Ow w 0 m.v m.d) :
    Calls Try.prog 50 #[.pointer (some ⟨S.nb, 0, none⟩), .int .i64 (i : Int), m.v, .int .i64 0] w fun e w' => e = .returned (.tuple #[]) ∧ NOk w' (wLs S i (comeL l m)) ∧ Fr (fun k => k = S.pb ∨ k = l.c) w w' := by
  have hi := (List.getElem?_eq_some_iff.1 hl).1
  have c0 := h.net.cell (i := 0) rfl
  have hx := h.chs l (get_mem hl)
  have ho' : (l.sh && l.la == 0) = false := by rw [ho]; rfl
  have hx' : w.heap[l.c]? = some (.chan 64 (l.ms.map (·.v)).toArray false l.s l.r false) := by rw [hx, chn, ho']
  have HC := Hid.of (come_walk w S.pb (i * 3) l.c l.s l.r (lcs S.ls) _ m.v h.row (lcell0 hl) hx')
  have HN := Hid.of (h.come hl ho' hm)
  have HF := Hid.of ((Fr.refl (fun k => k = S.pb ∨ k = l.c) w).by (wcome_by w l.c (l.ms.map (·.v)).toArray l.s l.r m.v) (fun g hg => .inl (.inr (Option.some.inj hg).symm)))
  clear h hx hx' ho' hm
  go_enter Try.func50, Try.ntmps50
  go_wp2_with fail
  refine HC.out.mono ?_
  rintro e w1 ⟨rfl, hw1⟩
  rw [← hw1] at HN HF
  dsimp only
  go_wp2
  refine bodyPost_ret (results_none rfl _ _ _) rfl ?_
  exact ⟨rfl, HN.out, HF.out⟩
set_option maxRecDepth 100000 in
set_option maxHeartbeats 1000000 in
theorem post_late (w : World) (S : NS) (i n : Nat) (l : LC) (m : Msg) (h : NOk w S) (hl : S.ls[i]? = some l) (ho : l.sh = false) (hm : Ow w 0 m.v m.d) (hn : 0 < n) (hn2 : S.now + n ≤ 4611686018427387904) (hmn : S.mn < maxLen) (hpd : S.pd.length ≤ 1099511627776) (hla : l.la ≤ 1099511627776) :
    Calls Try.prog 50 #[.pointer (some ⟨S.nb, 0, none⟩), .int .i64 (i : Int), m.v, .int .i64 (n : Int)] w fun e w' => e = .returned (.tuple #[]) ∧ ∃ v', NOk w' (wLs (wPd S ⟨S.now + n, i, m⟩ v') i { l with la := l.la + 1 }) ∧ Fr (own S) w w' ∧ Frs w (S.rows (S.now + n)) v' := by
  obtain ⟨mv, md⟩ := m
  dsimp only at hm ⊢
  obtain ⟨ma, mc, rfl, _⟩ := Ow.sb hm
  have hi := (List.getElem?_eq_some_iff.1 hl).1
  have c0 := h.net.cell (i := 0) rfl
  have c2 := h.net.cell (i := 2) rfl
  have hnz : ¬ ((n : Int) = 0) := by omega
  have hw0 : IntKind.i64.wrap ((S.now : Int) + (n : Int)) = (S.now : Int) + (n : Int) := by rw [IntKind.wrap_i64]; omega
  obtain ⟨i0, hi0, hz0, hz1, hz2⟩ := info_parts infoParcel
  have HN := Hid.of h
  have HM := Hid.of hm
  have HL := Hid.of hl
  have HP := Hid.of hpd
  have HLA := Hid.of hla
  have HN2 := Hid.of hn2
  have HMN := Hid.of hmn
  have HO0 := Hid.of ho
  obtain ⟨es, cl, hmap⟩ := h.mm.map
  have tm : otag w S.mb = some 1001 := by simp only [otag, hmap]
  have hnT : ¬ (S.nb = S.mb ∨ (S.rows (S.now + n)).ownBlock = some S.nb) := fun e => by
    rcases e with e | e
    · rw [← e, h.net.tag] at tm; cases tm
    · have := row_tag (h.prs _) e
      rw [h.net.tag] at this; cases this
  have HLK := Hid.of (fun (w2 : World) (hu : Up w w2) => (h.up hu).mm.look HN2.out)
  clear h hmap hl hm hpd hla hmn hn2 ho
  go_enter Try.func50, Try.ntmps50
  go_wp2
  have ecast : (S.now : Int) + (n : Int) = ((S.now + n : Nat) : Int) := by omega
  rw [ecast]
  clear c0 c2 hw0 hnz ecast
  generalize hT : S.now + n = T at *
  refine wp_region_held_drew (S := fun w2 => Fr (fun k => k = S.mb ∨ (S.rows T).ownBlock = some k) w w2) (by kernel_rfl) ((Fr.refl _ _).up (Up.refl _).drew) (fun hS => ?_)
  refine wpAnyH_take (i := 0) (oi := { dst := some 27, op := Go.Op.move (Go.Operand.tmp 0), type := 22, pos := "pipe.go:54", after := #[], guard := none }) (v := .pointer (some ⟨S.nb, 0, none⟩)) rfl (by kernel_rfl) (by kernel_rfl) (by kernel_rfl) (fun _ _ _ h => h) (Or.inl ⟨by kernel_rfl, ?_⟩) hS ?_
  · intro w5 hSw
    clear hSw hS
    go_simp
  simp only [Act.put, List.setIfInBounds_toArray, List.set_cons_zero, List.set_cons_succ]
  refine wpAnyH_take (i := 1) (oi := { dst := some 28, op := Go.Op.nilCheck (Go.Operand.tmp 27), type := 0, pos := "pipe.go:54", after := #[{ on := 0, ground := Go.Ground.data }], guard := none }) (v := .pointer (some ⟨S.nb, 0, none⟩)) rfl (by kernel_rfl) (by kernel_rfl) (by kernel_rfl) (fun _ _ _ h => h) (Or.inl ⟨by kernel_rfl, ?_⟩) hS ?_
  · intro w5 hSw
    clear hSw hS
    go_simp
  simp only [Act.put, List.setIfInBounds_toArray, List.set_cons_zero, List.set_cons_succ]
  refine wpAnyH_take (i := 2) (oi := { dst := some 29, op := Go.Op.fieldAddr 84 (Go.Operand.tmp 28) 3, type := 0, pos := "pipe.go:54", after := #[{ on := 1, ground := Go.Ground.data }], guard := none }) (v := .pointer (some ⟨S.nb, 3, none⟩)) rfl (by kernel_rfl) (by kernel_rfl) (by kernel_rfl) (fun _ _ _ h => h) (Or.inl ⟨by kernel_rfl, ?_⟩) hS ?_
  · intro w5 hSw
    clear hSw hS
    go_simp
  simp only [Act.put, List.setIfInBounds_toArray, List.set_cons_zero, List.set_cons_succ]
  refine wpAnyH_take (i := 3) (oi := { dst := some 30, op := Go.Op.load 82 (Go.Operand.tmp 29), type := 82, pos := "pipe.go:54", after := #[{ on := 2, ground := Go.Ground.data }], guard := none }) (v := .map (some S.mb)) rfl (by kernel_rfl) (by kernel_rfl) (by kernel_rfl) (fun _ _ _ h => h) (Or.inl ⟨by kernel_rfl, ?_⟩) hS ?_
  · intro w5 hSw
    have h0 := (hSw.at HN.out.net hnT).cell (i := 3) rfl
    clear hSw hS
    go_simp
  simp only [Act.put, List.setIfInBounds_toArray, List.set_cons_zero, List.set_cons_succ]
  refine wpAnyH_take (i := 4) (oi := { dst := some 31, op := Go.Op.move (Go.Operand.tmp 9), type := 3, pos := "pipe.go:54", after := #[], guard := none }) (v := .int .i64 (T : Int)) rfl (by kernel_rfl) (by kernel_rfl) (by kernel_rfl) (fun _ _ _ h => h) (Or.inl ⟨by kernel_rfl, ?_⟩) hS ?_
  · intro w5 hSw
    clear hSw hS
    go_simp
  simp only [Act.put, List.setIfInBounds_toArray, List.set_cons_zero, List.set_cons_succ]
  refine wpAnyH_take (i := 5) (oi := { dst := some 32, op := Go.Op.move (Go.Operand.tmp 0), type := 22, pos := "pipe.go:54", after := #[], guard := none }) (v := .pointer (some ⟨S.nb, 0, none⟩)) rfl (by kernel_rfl) (by kernel_rfl) (by kernel_rfl) (fun _ _ _ h => h) (Or.inl ⟨by kernel_rfl, ?_⟩) hS ?_
  · intro w5 hSw
    clear hSw hS
    go_simp
  simp only [Act.put, List.setIfInBounds_toArray, List.set_cons_zero, List.set_cons_succ]
  refine wpAnyH_take (i := 6) (oi := { dst := some 33, op := Go.Op.nilCheck (Go.Operand.tmp 32), type := 0, pos := "pipe.go:54", after := #[{ on := 5, ground := Go.Ground.data }], guard := none }) (v := .pointer (some ⟨S.nb, 0, none⟩)) rfl (by kernel_rfl) (by kernel_rfl) (by kernel_rfl) (fun _ _ _ h => h) (Or.inl ⟨by kernel_rfl, ?_⟩) hS ?_
  · intro w5 hSw
    clear hSw hS
    go_simp
  simp only [Act.put, List.setIfInBounds_toArray, List.set_cons_zero, List.set_cons_succ]
  refine wpAnyH_take (i := 7) (oi := { dst := some 34, op := Go.Op.fieldAddr 84 (Go.Operand.tmp 33) 3, type := 0, pos := "pipe.go:54", after := #[{ on := 6, ground := Go.Ground.data }], guard := none }) (v := .pointer (some ⟨S.nb, 3, none⟩)) rfl (by kernel_rfl) (by kernel_rfl) (by kernel_rfl) (fun _ _ _ h => h) (Or.inl ⟨by kernel_rfl, ?_⟩) hS ?_
  · intro w5 hSw
    clear hSw hS
    go_simp
  simp only [Act.put, List.setIfInBounds_toArray, List.set_cons_zero, List.set_cons_succ]
  refine wpAnyH_take (i := 8) (oi := { dst := some 35, op := Go.Op.load 82 (Go.Operand.tmp 34), type := 82, pos := "pipe.go:54", after := #[{ on := 7, ground := Go.Ground.data }], guard := none }) (v := .map (some S.mb)) rfl (by kernel_rfl) (by kernel_rfl) (by kernel_rfl) (fun _ _ _ h => h) (Or.inl ⟨by kernel_rfl, ?_⟩) hS ?_
  · intro w5 hSw
    have h0 := (hSw.at HN.out.net hnT).cell (i := 3) rfl
    clear hSw hS
    go_simp
  simp only [Act.put, List.setIfInBounds_toArray, List.set_cons_zero, List.set_cons_succ]
  refine wpAnyH_take (i := 9) (oi := { dst := some 36, op := Go.Op.move (Go.Operand.tmp 9), type := 3, pos := "pipe.go:54", after := #[], guard := none }) (v := .int .i64 (T : Int)) rfl (by kernel_rfl) (by kernel_rfl) (by kernel_rfl) (fun _ _ _ h => h) (Or.inl ⟨by kernel_rfl, ?_⟩) hS ?_
  · intro w5 hSw
    clear hSw hS
    go_simp
  simp only [Act.put, List.setIfInBounds_toArray, List.set_cons_zero, List.set_cons_succ]
  refine wpAnyH_take (i := 11) (oi := { dst := some 38, op := Go.Op.move (Go.Operand.tmp 1), type := 3, pos := "pipe.go:54", after := #[], guard := none }) (v := .int .i64 (i : Int)) rfl (by kernel_rfl) (by kernel_rfl) (by kernel_rfl) (fun _ _ _ h => h) (Or.inl ⟨by kernel_rfl, ?_⟩) hS ?_
  · intro w5 hSw
    clear hSw hS
    go_simp
  simp only [Act.put, List.setIfInBounds_toArray, List.set_cons_zero, List.set_cons_succ]
  refine wpAnyH_take (i := 12) (oi := { dst := some 39, op := Go.Op.move (Go.Operand.tmp 2), type := 47, pos := "pipe.go:54", after := #[], guard := none }) (v := .slice ma md.length mc) rfl (by kernel_rfl) (by kernel_rfl) (by kernel_rfl) (fun _ _ _ h => h) (Or.inl ⟨by kernel_rfl, ?_⟩) hS ?_
  · intro w5 hSw
    clear hSw hS
    go_simp
  simp only [Act.put, List.setIfInBounds_toArray, List.set_cons_zero, List.set_cons_succ]
  refine wpAnyH_take (i := 13) (oi := { dst := some 40, op := Go.Op.build 137 #[(0, Go.Operand.tmp 38), (1, Go.Operand.tmp 39)], type := 137, pos := "pipe.go:54", after := #[{ on := 11, ground := Go.Ground.data }, { on := 12, ground := Go.Ground.data }], guard := none }) (v := .agg #[.int .i64 (i : Int), .slice ma md.length mc]) rfl (by kernel_rfl) (by kernel_rfl) (by kernel_rfl) (fun _ _ _ h => h) (Or.inl ⟨by kernel_rfl, ?_⟩) hS ?_
  · intro w5 hSw
    clear hSw hS
    go_simp
  simp only [Act.put, List.setIfInBounds_toArray, List.set_cons_zero, List.set_cons_succ]
  refine wpAnyH_ready (rs := [10, 14]) (by kernel_rfl) (by simp) ?_
  refine AllReadyH.cons (o := { dst := some 37, op := Go.Op.lookup 82 (Go.Operand.tmp 35) (Go.Operand.tmp 36) false, type := 135, pos := "pipe.go:54", after := #[{ on := 8, ground := Go.Ground.data }, { on := 9, ground := Go.Ground.data }], guard := none }) rfl (fun K hK => ?_) (AllReadyH.cons (o := { dst := some 41, op := Go.Op.buildSlice 135 1 #[(0, Go.Operand.tmp 40)], type := 135, pos := "pipe.go:54", after := #[{ on := 13, ground := Go.Ground.data }], guard := none }) rfl (fun K hK => ?_) AllReadyH.nil)
  · rw [if_pos (by kernel_rfl)]
    have hlk := HLK.out _ (Up.refl w).drew
    go_simp
    refine hK.out _ _ hS (fun hS2 => ?_)
    clear hK K hlk hS
    have hS := hS2
    clear hS2
    refine wpAnyH_ready (rs := [14]) (by kernel_rfl) (by simp) ?_
    refine AllReadyH.cons (o := { dst := some 41, op := Go.Op.buildSlice 135 1 #[(0, Go.Operand.tmp 40)], type := 135, pos := "pipe.go:54", after := #[{ on := 13, ground := Go.Ground.data }], guard := none }) rfl (fun K hK => ?_) AllReadyH.nil
    rw [if_pos (by kernel_rfl)]
    go_simp
    have HU4 := Hid.of (((Up.refl w).alloc (.cells #[.int .i64 (i : Int), .slice ma md.length mc] 137)).drew)
    have HA4 := Hid.of ((at_new w 137 [.int .i64 (i : Int), .slice ma md.length mc]).up (Up.refl _).drew)
    generalize hW4 : (w.alloc (.cells #[.int .i64 (i : Int), .slice ma md.length mc] 137)).drew = W4 at *
    have HA4 : Hid (At W4 w.heap.size 137 [.int .i64 (i : Int), .slice ma md.length mc]) := by
      rw [← hW4]
      exact (at_new w 137 [.int .i64 (i : Int), .slice ma md.length mc]).up (Up.refl _).drew
    clear hW4
    refine hK.out _ _ ((Fr.refl _ _).up HU4.out) (fun hS2 => ?_)
    clear hK K hS
    have hS := hS2
    clear hS2
    refine wpAnyH_ready (rs := [15]) (by kernel_rfl) (by simp) ?_
    refine AllReadyH.cons (o := { dst := some 42, op := Go.Op.call { callee := Go.Callee.builtin Go.Builtin.append, args := #[Go.Operand.tmp 37, Go.Operand.tmp 41], argTypes := #[135, 135] }, type := 135, pos := "pipe.go:54", after := #[{ on := 10, ground := Go.Ground.data }, { on := 14, ground := Go.Ground.data }], guard := none }) rfl (fun K hK => ?_) AllReadyH.nil
    rw [if_pos (by kernel_rfl)]
    have HR4 := Hid.of (ow_up (HN.out.prs T) HU4.out)
    obtain ⟨v5, W5, hap, ho5, hg5, hfr5⟩ := run_append_frsN (P := Try.prog) W4 0 135 135 137 i0 (.agg #[.int .i64 0, nilS]) 2 32 Try.underlying135 hi0 hz0 hz1 hz2 rfl (by decide) (S.rows T) _ _ HR4.out ⟨w.heap.size, 0, none⟩ 1 1 [.int .i64 (i : Int), .slice ma md.length mc] rfl (fun j u hu => by rw [Addr.add_lit, Nat.zero_add]; exact HA4.out.cell hu) (fun u hu => by
      simp only [List.mem_cons, List.not_mem_nil, or_false] at hu
      rcases hu with rfl | rfl <;> rfl) (by have h1 := due_le S.pd T; have h2 := HP.out; simp only [maxLen]; omega) (by have h1 := due_le S.pd T; have h2 := HP.out; omega) (Nat.zero_le _)
    have HFr5 := Hid.of ((((Fr.refl (fun k => k = S.mb ∨ (S.rows T).ownBlock = some k) w).up HU4.out).by hg5 (fun g hg => .inl (.inr hg))))
    have HM5 := Hid.of ((HN.out.up HU4.out).mm.by hg5 (fun e => by
      have h1 := row_tag (HN.out.prs T) e
      rw [tm] at h1; cases h1))
    have HO5 := Hid.of ho5
    have HFs := Hid.of (fun g (hg : v5.ownBlock = some g) => (hfr5 g hg).imp id (fun h => Nat.le_trans HU4.out.size h))
    clear HR4 ho5 hg5 hfr5
    refine wp_app (v := S.rows T) (y := .slice (some ⟨w.heap.size, 0, none⟩) 1 1) rfl rfl rfl hap ?_
    simp only [Act.put, List.setIfInBounds_toArray, List.set_cons_zero, List.set_cons_succ]
    refine hK.out _ _ HFr5.out (fun hS2 => ?_)
    clear hK K hS hap
    have hS := hS2
    clear hS2
    refine wpAnyH_ready (rs := [16]) (by kernel_rfl) (by simp) ?_
    refine AllReadyH.cons (o := { dst := none, op := Go.Op.mapUpdate 82 (Go.Operand.tmp 30) (Go.Operand.tmp 31) (Go.Operand.tmp 42), type := 0, pos := "pipe.go:54", after := #[{ on := 3, ground := Go.Ground.data }, { on := 4, ground := Go.Ground.data }, { on := 15, ground := Go.Ground.data }, { on := 15, ground := Go.Ground.chain }, { on := 0, ground := Go.Ground.phase }, { on := 1, ground := Go.Ground.phase }, { on := 2, ground := Go.Ground.phase }, { on := 3, ground := Go.Ground.phase }, { on := 4, ground := Go.Ground.phase }, { on := 5, ground := Go.Ground.phase }, { on := 6, ground := Go.Ground.phase }, { on := 7, ground := Go.Ground.phase }, { on := 8, ground := Go.Ground.phase }, { on := 9, ground := Go.Ground.phase }, { on := 10, ground := Go.Ground.phase }, { on := 11, ground := Go.Ground.phase }, { on := 12, ground := Go.Ground.phase }, { on := 13, ground := Go.Ground.phase }, { on := 14, ground := Go.Ground.phase }, { on := 15, ground := Go.Ground.phase }], guard := none }) rfl (fun K hK => ?_) AllReadyH.nil
    rw [if_pos (by kernel_rfl)]
    obtain ⟨W6, hmu, hM6, hg6⟩ := HM5.out.put HMN.out HN2.out v5
    have HFr6 := Hid.of (HFr5.out.by hg6 (fun g hg => .inl (.inl (Option.some.inj hg).symm)))
    have HO6 := Hid.of (World.ownsRow.kept HO5.out hg6 (.inr (fun e => by
      have h1 := row_tag HO5.out e
      obtain ⟨es, cl, hmap⟩ := HM5.out.map
      simp only [otag, hmap] at h1
      cases h1)))
    have HM6 := Hid.of hM6
    clear hM6 hg6
    go_simp
    refine hK.out _ _ HFr6.out (fun hS2 => ?_)
    clear hK K hS hmu hS2
    refine wpAnyH_done (by kernel_rfl) ?_ _
    have hN6 := HN.out.posted ⟨T, i, ⟨.slice ma md.length mc, md⟩⟩ v5 HM6.out HO6.out HFs.out HFr6.out HM.out
    have c6 := hN6.row.cell (lcell2 (S := wPd S ⟨T, i, ⟨.slice ma md.length mc, md⟩⟩ v5) HL.out)
    have t6 := hN6.row.thaw (i * 3 + 2)
    have hw6 : IntKind.i64.wrap ((l.la : Int) + 1) = (l.la : Int) + 1 := by have := HLA.out; rw [IntKind.wrap_i64]; omega
    have HN6 := Hid.of hN6
    clear hN6
    go_wp2
    go_end0
    have hr6 := HN6.out.row.set (i * 3 + 2) (.int .i64 ((l.la : Int) + 1))
    rw [lcs_set (l' := { l with la := l.la + 1 }) (k := 2) (v := .int .i64 ((l.la : Int) + 1)) HL.out (by omega) (by simp [lc])] at hr6
    have hg7 := grown_at W6 S.pb (i * 3 + 2) (.int .i64 ((l.la : Int) + 1))
    refine ⟨rfl, v5, HN6.out.count1 HL.out HO0.out hg7 hr6, ?_, HFs.out⟩
    refine (HFr6.out.weak (fun g hg => ?_)).by hg7 (fun g hg => .inl (.inr (.inl (Option.some.inj hg).symm)))
    rcases hg with rfl | hg
    · exact .inr (.inr (.inl rfl))
    · exact .inr (.inr (.inr (.inr ⟨T, hg⟩)))
  · rw [if_pos (by kernel_rfl)]
    go_simp
    have HU4 := Hid.of (((Up.refl w).alloc (.cells #[.int .i64 (i : Int), .slice ma md.length mc] 137)).drew)
    have HA4 := Hid.of ((at_new w 137 [.int .i64 (i : Int), .slice ma md.length mc]).up (Up.refl _).drew)
    generalize hW4 : (w.alloc (.cells #[.int .i64 (i : Int), .slice ma md.length mc] 137)).drew = W4 at *
    have HA4 : Hid (At W4 w.heap.size 137 [.int .i64 (i : Int), .slice ma md.length mc]) := by
      rw [← hW4]
      exact (at_new w 137 [.int .i64 (i : Int), .slice ma md.length mc]).up (Up.refl _).drew
    clear hW4
    refine hK.out _ _ ((Fr.refl _ _).up HU4.out) (fun hS2 => ?_)
    clear hK K hS
    have hS := hS2
    clear hS2
    refine wpAnyH_ready (rs := [10]) (by kernel_rfl) (by simp) ?_
    refine AllReadyH.cons (o := { dst := some 37, op := Go.Op.lookup 82 (Go.Operand.tmp 35) (Go.Operand.tmp 36) false, type := 135, pos := "pipe.go:54", after := #[{ on := 8, ground := Go.Ground.data }, { on := 9, ground := Go.Ground.data }], guard := none }) rfl (fun K hK => ?_) AllReadyH.nil
    rw [if_pos (by kernel_rfl)]
    have hlk := HLK.out _ HU4.out
    go_simp
    refine hK.out _ _ hS (fun hS2 => ?_)
    clear hK K hlk hS
    have hS := hS2
    clear hS2
    refine wpAnyH_ready (rs := [15]) (by kernel_rfl) (by simp) ?_
    refine AllReadyH.cons (o := { dst := some 42, op := Go.Op.call { callee := Go.Callee.builtin Go.Builtin.append, args := #[Go.Operand.tmp 37, Go.Operand.tmp 41], argTypes := #[135, 135] }, type := 135, pos := "pipe.go:54", after := #[{ on := 10, ground := Go.Ground.data }, { on := 14, ground := Go.Ground.data }], guard := none }) rfl (fun K hK => ?_) AllReadyH.nil
    rw [if_pos (by kernel_rfl)]
    have HR4 := Hid.of (ow_up (HN.out.prs T) HU4.out)
    obtain ⟨v5, W5, hap, ho5, hg5, hfr5⟩ := run_append_frsN (P := Try.prog) W4 0 135 135 137 i0 (.agg #[.int .i64 0, nilS]) 2 32 Try.underlying135 hi0 hz0 hz1 hz2 rfl (by decide) (S.rows T) _ _ HR4.out ⟨w.heap.size, 0, none⟩ 1 1 [.int .i64 (i : Int), .slice ma md.length mc] rfl (fun j u hu => by rw [Addr.add_lit, Nat.zero_add]; exact HA4.out.cell hu) (fun u hu => by
      simp only [List.mem_cons, List.not_mem_nil, or_false] at hu
      rcases hu with rfl | rfl <;> rfl) (by have h1 := due_le S.pd T; have h2 := HP.out; simp only [maxLen]; omega) (by have h1 := due_le S.pd T; have h2 := HP.out; omega) (Nat.zero_le _)
    have HFr5 := Hid.of ((((Fr.refl (fun k => k = S.mb ∨ (S.rows T).ownBlock = some k) w).up HU4.out).by hg5 (fun g hg => .inl (.inr hg))))
    have HM5 := Hid.of ((HN.out.up HU4.out).mm.by hg5 (fun e => by
      have h1 := row_tag (HN.out.prs T) e
      rw [tm] at h1; cases h1))
    have HO5 := Hid.of ho5
    have HFs := Hid.of (fun g (hg : v5.ownBlock = some g) => (hfr5 g hg).imp id (fun h => Nat.le_trans HU4.out.size h))
    clear HR4 ho5 hg5 hfr5
    refine wp_app (v := S.rows T) (y := .slice (some ⟨w.heap.size, 0, none⟩) 1 1) rfl rfl rfl hap ?_
    simp only [Act.put, List.setIfInBounds_toArray, List.set_cons_zero, List.set_cons_succ]
    refine hK.out _ _ HFr5.out (fun hS2 => ?_)
    clear hK K hS hap
    have hS := hS2
    clear hS2
    refine wpAnyH_ready (rs := [16]) (by kernel_rfl) (by simp) ?_
    refine AllReadyH.cons (o := { dst := none, op := Go.Op.mapUpdate 82 (Go.Operand.tmp 30) (Go.Operand.tmp 31) (Go.Operand.tmp 42), type := 0, pos := "pipe.go:54", after := #[{ on := 3, ground := Go.Ground.data }, { on := 4, ground := Go.Ground.data }, { on := 15, ground := Go.Ground.data }, { on := 15, ground := Go.Ground.chain }, { on := 0, ground := Go.Ground.phase }, { on := 1, ground := Go.Ground.phase }, { on := 2, ground := Go.Ground.phase }, { on := 3, ground := Go.Ground.phase }, { on := 4, ground := Go.Ground.phase }, { on := 5, ground := Go.Ground.phase }, { on := 6, ground := Go.Ground.phase }, { on := 7, ground := Go.Ground.phase }, { on := 8, ground := Go.Ground.phase }, { on := 9, ground := Go.Ground.phase }, { on := 10, ground := Go.Ground.phase }, { on := 11, ground := Go.Ground.phase }, { on := 12, ground := Go.Ground.phase }, { on := 13, ground := Go.Ground.phase }, { on := 14, ground := Go.Ground.phase }, { on := 15, ground := Go.Ground.phase }], guard := none }) rfl (fun K hK => ?_) AllReadyH.nil
    rw [if_pos (by kernel_rfl)]
    obtain ⟨W6, hmu, hM6, hg6⟩ := HM5.out.put HMN.out HN2.out v5
    have HFr6 := Hid.of (HFr5.out.by hg6 (fun g hg => .inl (.inl (Option.some.inj hg).symm)))
    have HO6 := Hid.of (World.ownsRow.kept HO5.out hg6 (.inr (fun e => by
      have h1 := row_tag HO5.out e
      obtain ⟨es, cl, hmap⟩ := HM5.out.map
      simp only [otag, hmap] at h1
      cases h1)))
    have HM6 := Hid.of hM6
    clear hM6 hg6
    go_simp
    refine hK.out _ _ HFr6.out (fun hS2 => ?_)
    clear hK K hS hmu hS2
    refine wpAnyH_done (by kernel_rfl) ?_ _
    have hN6 := HN.out.posted ⟨T, i, ⟨.slice ma md.length mc, md⟩⟩ v5 HM6.out HO6.out HFs.out HFr6.out HM.out
    have c6 := hN6.row.cell (lcell2 (S := wPd S ⟨T, i, ⟨.slice ma md.length mc, md⟩⟩ v5) HL.out)
    have t6 := hN6.row.thaw (i * 3 + 2)
    have hw6 : IntKind.i64.wrap ((l.la : Int) + 1) = (l.la : Int) + 1 := by have := HLA.out; rw [IntKind.wrap_i64]; omega
    have HN6 := Hid.of hN6
    clear hN6
    go_wp2
    go_end0
    have hr6 := HN6.out.row.set (i * 3 + 2) (.int .i64 ((l.la : Int) + 1))
    rw [lcs_set (l' := { l with la := l.la + 1 }) (k := 2) (v := .int .i64 ((l.la : Int) + 1)) HL.out (by omega) (by simp [lc])] at hr6
    have hg7 := grown_at W6 S.pb (i * 3 + 2) (.int .i64 ((l.la : Int) + 1))
    refine ⟨rfl, v5, HN6.out.count1 HL.out HO0.out hg7 hr6, ?_, HFs.out⟩
    refine (HFr6.out.weak (fun g hg => ?_)).by hg7 (fun g hg => .inl (.inr (.inl (Option.some.inj hg).symm)))
    rcases hg with rfl | hg
    · exact .inr (.inr (.inl rfl))
    · exact .inr (.inr (.inr (.inr ⟨T, hg⟩)))
end Go.Proofs.Ytdlfkdehfenemaa
