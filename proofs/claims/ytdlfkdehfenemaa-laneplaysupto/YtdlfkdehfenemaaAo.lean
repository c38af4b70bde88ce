import Derived.Test.YtdlfkdehfenemaaAn
namespace Go.Proofs.Ytdlfkdehfenemaa
open Go.RowKit Go.Conc TextNum
theorem row_shape {w : World} {n m : Nat} {e : TypeId} {v : Value} {xs : List Value} (h : w.ownsRow 0 e m v n xs) : ∃ a c, v = .slice a n c ∧ n ≤ c ∧ (0 < n → ∃ g, a = some ⟨g, 0, none⟩) := by
  rcases h.2 with ⟨rfl, h0⟩ | ⟨g, cap, cur, rfl, _, _, hc, _⟩
  · subst h0
    exact ⟨none, 0, rfl, Nat.le_refl _, fun h => absurd h (by omega)⟩
  · exact ⟨_, cap, rfl, hc, fun _ => ⟨g, rfl⟩⟩
theorem pcs_get {ps : List PC} : ∀ {j : Nat} (hj : j < ps.length), (ps.flatMap pc)[j * 2]? = some (.int .i64 ((ps[j]'hj).i : Int)) ∧ (ps.flatMap pc)[j * 2 + 1]? = some (ps[j]'hj).m.v := by
  induction ps with
  | nil => intro j hj; simp at hj
  | cons p r ih =>
    intro j hj
    cases j with
    | zero => exact ⟨rfl, rfl⟩
    | succ j =>
      have := ih (j := j) (by simpa using hj)
      rw [show (p :: r).flatMap pc = [.int .i64 (p.i : Int), p.m.v] ++ r.flatMap pc from rfl]
      rw [show (j + 1) * 2 = j * 2 + 2 by omega, show j * 2 + 2 + 1 = j * 2 + 1 + 2 by omega]
      simpa using this
set_option maxRecDepth 100000 in
set_option maxHeartbeats 1000000 in
theorem tick_walk (w : World) (S : NS) (h : NOk w S) (k : SOk S) (hn : S.now ≤ 4611686018427387900) (hbd : S.mn ≤ 1099511627776) :
    Calls Try.prog 54 #[.pointer (some ⟨S.nb, 0, none⟩)] w fun e w' => e = .returned (.tuple #[]) ∧ ∃ S', Stp w.heap.size 0 w w' S S' (tickA (abs S)) ∧ S'.ls.map (·.sh) = S.ls.map (·.sh) := by
  have c2 := h.net.cell (i := 2) rfl
  have t2 := h.net.thaw 2
  have hw0 : IntKind.i64.wrap ((S.now : Int) + 1) = (S.now : Int) + 1 := by rw [IntKind.wrap_i64]; omega
  have hA1 := h.net.set 2 (.int .i64 ((S.now : Int) + 1))
  have hG1 := grown_at w S.nb 2 (.int .i64 ((S.now : Int) + 1))
  have hN1 : NOk (w.setCell ⟨S.nb, 2, none⟩ (.int .i64 ((S.now : Int) + 1))) { S with now := S.now + 1 } := h.netw hG1 (S.now + 1) hA1
  have HN1 := Hid.of hN1
  have HG1 := Hid.of hG1
  have HN := Hid.of h
  have HK := Hid.of k
  have HNN := Hid.of hn
  have HBD := Hid.of hbd
  clear h k hA1 hG1 hN1 hn hbd
  go_enter Try.func54, Try.ntmps54
  go_wp2
  have ecast : (S.now : Int) + 1 = ((S.now + 1 : Nat) : Int) := by omega
  rw [ecast] at HN1 HG1 ⊢
  generalize w.setCell ⟨S.nb, 2, none⟩ (.int .i64 ((S.now + 1 : Nat) : Int)) = W1 at *
  clear c2 t2 hw0 ecast
  obtain ⟨T, hT⟩ : ∃ T, S.now + 1 = T := ⟨_, rfl⟩
  rw [hT] at HN1 ⊢
  obtain ⟨ra, rc, hrow, hrc, hrg⟩ := row_shape (HN1.out.prs T)
  have hrow' : S.rows T = .slice ra (due S.pd T).length rc := hrow
  have HROW := Hid.of hrow'
  have HRG := Hid.of hrg
  have HRC := Hid.of hrc
  have HTT := Hid.of hT
  have hTb : T ≤ 4611686018427387904 := by have := HNN.out; omega
  have HLK := Hid.of (fun (wz : World) (hu : Up W1 wz) => (HN1.out.up hu).mm.look hTb)
  clear hrow hrow' hrg hrc hT
  refine wp_region_held_drew (S := fun wz => Up W1 wz) (by kernel_rfl) (Up.refl W1).drew (fun hS => ?_)
  refine wpAnyH_take (i := 0) (oi := { dst := some 11, op := Go.Op.move (Go.Operand.tmp 0), type := 22, pos := "pipe.go:61", after := #[], guard := none }) (v := .pointer (some ⟨S.nb, 0, none⟩)) rfl (by kernel_rfl) (by kernel_rfl) (by kernel_rfl) (fun _ _ _ h => h) (Or.inl ⟨by kernel_rfl, ?_⟩) hS ?_
  · intro w5 hSw
    clear hSw hS
    go_simp
  simp only [Act.put, List.setIfInBounds_toArray, List.set_cons_zero, List.set_cons_succ]
  refine wpAnyH_take (i := 1) (oi := { dst := some 12, op := Go.Op.nilCheck (Go.Operand.tmp 11), type := 0, pos := "pipe.go:61", after := #[{ on := 0, ground := Go.Ground.data }], guard := none }) (v := .pointer (some ⟨S.nb, 0, none⟩)) rfl (by kernel_rfl) (by kernel_rfl) (by kernel_rfl) (fun _ _ _ h => h) (Or.inl ⟨by kernel_rfl, ?_⟩) hS ?_
  · intro w5 hSw
    clear hSw hS
    go_simp
  simp only [Act.put, List.setIfInBounds_toArray, List.set_cons_zero, List.set_cons_succ]
  refine wpAnyH_take (i := 2) (oi := { dst := some 13, op := Go.Op.fieldAddr 84 (Go.Operand.tmp 12) 3, type := 0, pos := "pipe.go:61", after := #[{ on := 1, ground := Go.Ground.data }], guard := none }) (v := .pointer (some ⟨S.nb, 3, none⟩)) rfl (by kernel_rfl) (by kernel_rfl) (by kernel_rfl) (fun _ _ _ h => h) (Or.inl ⟨by kernel_rfl, ?_⟩) hS ?_
  · intro w5 hSw
    clear hSw hS
    go_simp
  simp only [Act.put, List.setIfInBounds_toArray, List.set_cons_zero, List.set_cons_succ]
  refine wpAnyH_take (i := 3) (oi := { dst := some 14, op := Go.Op.load 82 (Go.Operand.tmp 13), type := 82, pos := "pipe.go:61", after := #[{ on := 2, ground := Go.Ground.data }], guard := none }) (v := .map (some S.mb)) rfl (by kernel_rfl) (by kernel_rfl) (by kernel_rfl) (fun _ _ _ h => h) (Or.inl ⟨by kernel_rfl, ?_⟩) hS ?_
  · intro w5 hSw
    have h0 := (HN1.out.up hSw).net.cell (i := 3) rfl
    clear hSw hS
    go_simp
  simp only [Act.put, List.setIfInBounds_toArray, List.set_cons_zero, List.set_cons_succ]
  refine wpAnyH_take (i := 4) (oi := { dst := some 15, op := Go.Op.move (Go.Operand.tmp 0), type := 22, pos := "pipe.go:61", after := #[], guard := none }) (v := .pointer (some ⟨S.nb, 0, none⟩)) rfl (by kernel_rfl) (by kernel_rfl) (by kernel_rfl) (fun _ _ _ h => h) (Or.inl ⟨by kernel_rfl, ?_⟩) hS ?_
  · intro w5 hSw
    clear hSw hS
    go_simp
  simp only [Act.put, List.setIfInBounds_toArray, List.set_cons_zero, List.set_cons_succ]
  refine wpAnyH_take (i := 5) (oi := { dst := some 16, op := Go.Op.nilCheck (Go.Operand.tmp 15), type := 0, pos := "pipe.go:61", after := #[{ on := 4, ground := Go.Ground.data }], guard := none }) (v := .pointer (some ⟨S.nb, 0, none⟩)) rfl (by kernel_rfl) (by kernel_rfl) (by kernel_rfl) (fun _ _ _ h => h) (Or.inl ⟨by kernel_rfl, ?_⟩) hS ?_
  · intro w5 hSw
    clear hSw hS
    go_simp
  simp only [Act.put, List.setIfInBounds_toArray, List.set_cons_zero, List.set_cons_succ]
  refine wpAnyH_take (i := 6) (oi := { dst := some 17, op := Go.Op.fieldAddr 84 (Go.Operand.tmp 16) 2, type := 0, pos := "pipe.go:61", after := #[{ on := 5, ground := Go.Ground.data }], guard := none }) (v := .pointer (some ⟨S.nb, 2, none⟩)) rfl (by kernel_rfl) (by kernel_rfl) (by kernel_rfl) (fun _ _ _ h => h) (Or.inl ⟨by kernel_rfl, ?_⟩) hS ?_
  · intro w5 hSw
    clear hSw hS
    go_simp
  simp only [Act.put, List.setIfInBounds_toArray, List.set_cons_zero, List.set_cons_succ]
  refine wpAnyH_take (i := 7) (oi := { dst := some 18, op := Go.Op.load 3 (Go.Operand.tmp 17), type := 3, pos := "pipe.go:61", after := #[{ on := 6, ground := Go.Ground.data }], guard := none }) (v := .int .i64 (T : Int)) rfl (by kernel_rfl) (by kernel_rfl) (by kernel_rfl) (fun _ _ _ h => h) (Or.inl ⟨by kernel_rfl, ?_⟩) hS ?_
  · intro w5 hSw
    have h0 := (HN1.out.up hSw).net.cell (i := 2) rfl
    clear hSw hS
    go_simp
  simp only [Act.put, List.setIfInBounds_toArray, List.set_cons_zero, List.set_cons_succ]
  refine wpAnyH_take (i := 8) (oi := { dst := some 19, op := Go.Op.lookup 82 (Go.Operand.tmp 14) (Go.Operand.tmp 18) false, type := 135, pos := "pipe.go:61", after := #[{ on := 3, ground := Go.Ground.data }, { on := 7, ground := Go.Ground.data }], guard := none }) (v := .slice ra (due S.pd T).length rc) rfl (by kernel_rfl) (by kernel_rfl) (by kernel_rfl) (fun _ _ _ h => h) (Or.inl ⟨by kernel_rfl, ?_⟩) hS ?_
  · intro w5 hSw
    have h0 := HLK.out _ hSw
    dsimp only at h0
    rw [HROW.out] at h0
    clear hSw hS
    go_simp
  simp only [Act.put, List.setIfInBounds_toArray, List.set_cons_zero, List.set_cons_succ]
  refine wpAnyH_take (i := 9) (oi := { dst := some 20, op := Go.Op.call { callee := Go.Callee.builtin Go.Builtin.len, args := #[Go.Operand.tmp 19], argTypes := #[135] }, type := 3, pos := "pipe.go:61", after := #[{ on := 8, ground := Go.Ground.data }], guard := none }) (v := .int .i64 ((due S.pd T).length : Int)) rfl (by kernel_rfl) (by kernel_rfl) (by kernel_rfl) (fun _ _ _ h => h) (Or.inl ⟨by kernel_rfl, ?_⟩) hS ?_
  · intro w5 hSw
    clear hSw hS
    go_simp
  simp only [Act.put, List.setIfInBounds_toArray, List.set_cons_zero, List.set_cons_succ]
  refine wpAnyH_take (i := 10) (oi := { dst := some 21, op := Go.Op.move (Go.Operand.const (Go.Value.int Go.IntKind.i64 0)), type := 3, pos := "pipe.go:61", after := #[], guard := none }) (v := .int .i64 0) rfl (by kernel_rfl) (by kernel_rfl) (by kernel_rfl) (fun _ _ _ h => h) (Or.inl ⟨by kernel_rfl, ?_⟩) hS ?_
  · intro w5 hSw
    clear hSw hS
    go_simp
  simp only [Act.put, List.setIfInBounds_toArray, List.set_cons_zero, List.set_cons_succ]
  refine wpAnyH_done (by kernel_rfl) ?_ _
  have HN2 := Hid.of (HN1.out.up (Up.refl W1).drew)
  have HFr2 := Hid.of (((Fr.refl (own S) w).by HG1.out (fun g hg => .inl (.inl (Option.some.inj hg).symm))).up (Up.refl W1).drew)
  clear hS HN1 HG1 HLK
  generalize W1.drew = W2 at *
  go_wp2
  go_loopw [3, 21] (fun _ v21 wr => ∃ j : Nat, v21 = .int .i64 (j : Int) ∧ j ≤ (due S.pd T).length ∧ Hid (NOk wr (arrS { S with now := T } ((due S.pd T).take j)) ∧ Fr (own S) w wr)) (fun _ v21 _ => (due S.pd T).length - (intOf v21).toNat)
  case atStart => exact ⟨0, rfl, by omega, Hid.of ⟨HN2.out, HFr2.out⟩⟩
  case round =>
    obtain ⟨j, rfl, hj, hR⟩ := hrel
    obtain ⟨wx, hwx⟩ : ∃ wx, wx = wr := ⟨_, rfl⟩
    subst hwx
    by_cases hlt : j < (due S.pd T).length
    · have hltz : (j : Int) < ((due S.pd T).length : Int) := by omega
      obtain ⟨hNr, hFr⟩ := hR.out
      obtain ⟨ls, els, hll⟩ := arrS_keep ((due S.pd T).take j) { S with now := T }
      have hrw : (arrS { S with now := T } ((due S.pd T).take j)).rows T = .slice ra (due S.pd T).length rc := by rw [els]; exact HROW.out
      have hpd : (arrS { S with now := T } ((due S.pd T).take j)).pd = S.pd := by rw [els]
      have hpr := hNr.prs T
      rw [hrw, hpd] at hpr
      obtain ⟨g, hg⟩ := HRG.out (Nat.lt_of_le_of_lt (Nat.zero_le j) hlt)
      subst hg
      obtain ⟨p, hp⟩ : ∃ p, (due S.pd T)[j] = p := ⟨_, rfl⟩
      have hpm : p ∈ due S.pd T := hp ▸ List.getElem_mem hlt
      have hps : p ∈ S.pd := (List.mem_filter.1 hpm).1
      obtain ⟨k0, k1⟩ := pcs_get hlt
      rw [hp] at k0 k1
      have d0 := World.ownsRow.cells hpr rfl _ _ k0
      have d1 := World.ownsRow.cells hpr rfl _ _ k1
      rw [Addr.add_lit, Nat.zero_add] at d0 d1
      have hmO : Ow wx 0 p.m.v p.m.d := hNr.ms p.m (List.mem_append.2 (.inr (List.mem_map.2 ⟨p, by rw [hpd]; exact hps, rfl⟩)))
      obtain ⟨ma, mc, hmv, _⟩ := Ow.sb hmO
      rw [hmv] at d1
      have hcz : ((due S.pd T).length : Int) ≤ (rc : Int) := by have h5 : (due S.pd T).length ≤ rc := HRC.out; omega
      have HNr := Hid.of hNr
      have HFr := Hid.of hFr
      have HP := Hid.of hp
      have HPS := Hid.of hps
      have HMO := Hid.of hmO
      have HMV := Hid.of hmv
      have HLT := Hid.of hlt
      have HELS := Hid.of (show (arrS { S with now := T } ((due S.pd T).take j)).nb = S.nb ∧ (arrS { S with now := T } ((due S.pd T).take j)).pb = S.pb by rw [els]; exact ⟨rfl, rfl⟩)
      obtain ⟨l, hl⟩ : ∃ l, S.ls[p.i]? = some l := ⟨_, List.getElem?_eq_getElem (HK.out.pd p hps).2⟩
      obtain ⟨l1, hl1, hla1, hsh1⟩ := arrS_get (S := { S with now := T }) (ps := (due S.pd T).take j) (i := p.i) (l := l) hl
      have hpos : 0 < l1.la ∧ l1.la ≤ 4611686018427387904 := by
        have h1 := HK.out.la _ _ hl
        have h2 := countP_split S.pd T p.i
        have h3 : ((due S.pd T).take (j + 1)).countP (fun q => q.i == p.i) ≤ (due S.pd T).countP (fun q => q.i == p.i) := (List.take_sublist _ _).countP_le
        rw [List.take_succ_eq_append_getElem hlt, hp, countP_app, if_pos rfl] at h3
        have h4 : S.pd.countP (fun q => q.i == p.i) ≤ S.pd.length := List.countP_le_length
        have h5 := HK.out.bd
        have h6 := HBD.out
        omega
      have HL1 := Hid.of hl1
      have HPOS := Hid.of hpos
      have hlen : (arrS { S with now := T } ((due S.pd T).take j)).ls.length = S.ls.length := by rw [els]; exact hll
      have HLEN := Hid.of hlen
      have hpi := (HK.out.pd p hps).2
      have hpiz : (p.i : Int) < (S.ls.length : Int) := by omega
      clear hR hNr hFr els hll hrw hpd hpr hp hpm hps k0 k1 hmO hmv hl1 hpos hlen hl hla1 hsh1
      go_wp2_with (with_reducible show wpList _ _ _ ({ dst := _, op := Op.store 137 _ _, type := _, pos := _, after := _, guard := _ } :: _) _ _; refine Shut.out ?_)
      show wpList _ _ _ _ _ _
      have HA3 := Hid.of (at_new wx 137 [.int .i64 0, nilS])
      have HU3 := Hid.of ((Up.refl wx).alloc (.cells #[.int .i64 0, nilS] 137))
      generalize wx.alloc (.cells #[.int .i64 0, nilS] 137) = W3 at *
      refine wpList_store_at rfl 137 _ _ rfl wx.heap.size HA3.out [.int .i64 (p.i : Int), .slice ma p.m.d.length mc] rfl rfl rfl (by kernel_rfl) (by simp [Value.oneCell']) ?_
      intro w4 a4 g4
      simp only [Act.put]
      have HA4 := Hid.of a4
      have HN4 := Hid.of ((HNr.out.up HU3.out).fr ((Fr.refl (fun q => q = wx.heap.size) W3).by g4 (fun q hq => .inl (Option.some.inj hq).symm)) (fun q hq e => by have := HNr.out.lt hq; omega) (fun q hq e => by have := HNr.out.ltr hq; omega))
      have HFr4 := Hid.of ((HFr.out.up HU3.out).by g4 (fun q hq => .inr (by have := HFr.out.size; have := Option.some.inj hq; omega)))
      have HM4 := Hid.of (World.ownsRow.kept (ow_up HMO.out HU3.out) g4 (.inr (fun e => by have := (World.ownsRow.lt HMO.out _ e).2; omega)))
      have HX4 := Hid.of (HN4.out.chs l1 (get_mem HL1.out))
      have hbT : ¬ (wx.heap.size = S.pb ∨ wx.heap.size = l1.c) := fun e => by
        rcases e with e | e
        · have := HNr.out.lt (k := S.pb) (.inr (.inl HELS.out.2.symm))
          omega
        · have := HNr.out.lt (k := l1.c) (.inr (.inr (.inr (.inl ⟨l1, get_mem HL1.out, rfl⟩))))
          omega
      have hnT : ¬ ((arrS { S with now := T } ((due S.pd T).take j)).nb = S.pb ∨ (arrS { S with now := T } ((due S.pd T).take j)).nb = l1.c) := fun e => by
        rcases e with e | e
        · exact HN4.out.net.ne HN4.out.row (by decide) (e.trans HELS.out.2.symm)
        · exact at_notchan HN4.out.net HX4.out e
      clear a4 g4 d0 d1
      go_wp2
      refine wp_region_held_drew (S := fun wz => Fr (fun q => q = S.pb ∨ q = l1.c) w4 wz) (by kernel_rfl) ((Fr.refl _ w4).up (Up.refl w4).drew) (fun hS => ?_)
      refine wpAnyH_take (i := 0) (oi := { dst := some 25, op := Go.Op.move (Go.Operand.tmp 0), type := 22, pos := "pipe.go:62", after := #[], guard := none }) (v := .pointer (some ⟨S.nb, 0, none⟩)) rfl (by kernel_rfl) (by kernel_rfl) (by kernel_rfl) (fun _ _ _ h => h) (Or.inl ⟨by kernel_rfl, ?_⟩) hS ?_
      · intro w5 hSw
        clear hSw hS
        go_simp
      simp only [Act.put, List.setIfInBounds_toArray, List.set_cons_zero, List.set_cons_succ]
      refine wpAnyH_take (i := 1) (oi := { dst := some 26, op := Go.Op.nilCheck (Go.Operand.tmp 25), type := 0, pos := "pipe.go:62", after := #[{ on := 0, ground := Go.Ground.data }], guard := none }) (v := .pointer (some ⟨S.nb, 0, none⟩)) rfl (by kernel_rfl) (by kernel_rfl) (by kernel_rfl) (fun _ _ _ h => h) (Or.inl ⟨by kernel_rfl, ?_⟩) hS ?_
      · intro w5 hSw
        clear hSw hS
        go_simp
      simp only [Act.put, List.setIfInBounds_toArray, List.set_cons_zero, List.set_cons_succ]
      refine wpAnyH_take (i := 2) (oi := { dst := some 27, op := Go.Op.fieldAddr 84 (Go.Operand.tmp 26) 0, type := 0, pos := "pipe.go:62", after := #[{ on := 1, ground := Go.Ground.data }], guard := none }) (v := .pointer (some ⟨S.nb, 0, none⟩)) rfl (by kernel_rfl) (by kernel_rfl) (by kernel_rfl) (fun _ _ _ h => h) (Or.inl ⟨by kernel_rfl, ?_⟩) hS ?_
      · intro w5 hSw
        clear hSw hS
        go_simp
      simp only [Act.put, List.setIfInBounds_toArray, List.set_cons_zero, List.set_cons_succ]
      refine wpAnyH_take (i := 3) (oi := { dst := some 28, op := Go.Op.load 80 (Go.Operand.tmp 27), type := 80, pos := "pipe.go:62", after := #[{ on := 2, ground := Go.Ground.data }], guard := none }) (v := .slice (some ⟨S.pb, 0, none⟩) S.ls.length S.ls.length) rfl (by kernel_rfl) (by kernel_rfl) (by kernel_rfl) (fun _ _ _ h => h) (Or.inl ⟨by kernel_rfl, ?_⟩) hS ?_
      · intro w5 hSw
        have h0 := (hSw.at HN4.out.net hnT).cell (i := 0) rfl
        rw [HELS.out.1, HELS.out.2, HLEN.out] at h0
        clear hSw hS
        go_simp
      simp only [Act.put, List.setIfInBounds_toArray, List.set_cons_zero, List.set_cons_succ]
      refine wpAnyH_take (i := 4) (oi := { dst := some 29, op := Go.Op.fieldAddr 137 (Go.Operand.tmp 3) 0, type := 0, pos := "pipe.go:62", after := #[], guard := none }) (v := .pointer (some ⟨wx.heap.size, 0, none⟩)) rfl (by kernel_rfl) (by kernel_rfl) (by kernel_rfl) (fun _ _ _ h => h) (Or.inl ⟨by kernel_rfl, ?_⟩) hS ?_
      · intro w5 hSw
        clear hSw hS
        go_simp
      simp only [Act.put, List.setIfInBounds_toArray, List.set_cons_zero, List.set_cons_succ]
      refine wpAnyH_take (i := 5) (oi := { dst := some 30, op := Go.Op.load 3 (Go.Operand.tmp 29), type := 3, pos := "pipe.go:62", after := #[{ on := 4, ground := Go.Ground.data }], guard := none }) (v := .int .i64 (p.i : Int)) rfl (by kernel_rfl) (by kernel_rfl) (by kernel_rfl) (fun _ _ _ h => h) (Or.inl ⟨by kernel_rfl, ?_⟩) hS ?_
      · intro w5 hSw
        have h0 := (hSw.at HA4.out hbT).cell (i := 0) rfl
        clear hSw hS
        go_simp
      simp only [Act.put, List.setIfInBounds_toArray, List.set_cons_zero, List.set_cons_succ]
      refine wpAnyH_take (i := 6) (oi := { dst := some 31, op := Go.Op.indexAddr 80 (Go.Operand.tmp 28) (Go.Operand.tmp 30), type := 0, pos := "pipe.go:62", after := #[{ on := 3, ground := Go.Ground.data }, { on := 5, ground := Go.Ground.data }], guard := none }) (v := .pointer (some ⟨S.pb, p.i * 3, none⟩)) rfl (by kernel_rfl) (by kernel_rfl) (by kernel_rfl) (fun _ _ _ h => h) (Or.inl ⟨by kernel_rfl, ?_⟩) hS ?_
      · intro w5 hSw
        clear hSw hS
        go_simp
      simp only [Act.put, List.setIfInBounds_toArray, List.set_cons_zero, List.set_cons_succ]
      refine wpAnyH_take (i := 7) (oi := { dst := some 32, op := Go.Op.fieldAddr 137 (Go.Operand.tmp 3) 1, type := 0, pos := "pipe.go:62", after := #[], guard := none }) (v := .pointer (some ⟨wx.heap.size, 1, none⟩)) rfl (by kernel_rfl) (by kernel_rfl) (by kernel_rfl) (fun _ _ _ h => h) (Or.inl ⟨by kernel_rfl, ?_⟩) hS ?_
      · intro w5 hSw
        clear hSw hS
        go_simp
      simp only [Act.put, List.setIfInBounds_toArray, List.set_cons_zero, List.set_cons_succ]
      refine wpAnyH_take (i := 8) (oi := { dst := some 33, op := Go.Op.load 47 (Go.Operand.tmp 32), type := 47, pos := "pipe.go:62", after := #[{ on := 7, ground := Go.Ground.data }], guard := none }) (v := .slice ma p.m.d.length mc) rfl (by kernel_rfl) (by kernel_rfl) (by kernel_rfl) (fun _ _ _ h => h) (Or.inl ⟨by kernel_rfl, ?_⟩) hS ?_
      · intro w5 hSw
        have h0 := (hSw.at HA4.out hbT).cell (i := 1) rfl
        clear hSw hS
        go_simp
      simp only [Act.put, List.setIfInBounds_toArray, List.set_cons_zero, List.set_cons_succ]
      refine wpAnyH_ready (rs := [9]) (by kernel_rfl) (by simp) ?_
      refine AllReadyH.cons (o := { dst := some 34, op := Go.Op.call { callee := Go.Callee.value (Go.Operand.func 67), args := #[Go.Operand.tmp 31, Go.Operand.tmp 33], argTypes := #[87, 47] }, type := 0, pos := "pipe.go:62", after := #[{ on := 6, ground := Go.Ground.data }, { on := 8, ground := Go.Ground.data }], guard := none }) rfl (fun K hK => ?_) AllReadyH.nil
      rw [if_pos (by kernel_rfl)]
      have hAr := arrive_walk w4.drew _ p.i l1 p.m (HN4.out.up (Up.refl w4).drew) HL1.out HPOS.out.1 HPOS.out.2 (ow_up HM4.out (Up.refl w4).drew)
      rw [HELS.out.2, HMV.out] at hAr
      go_simp
      refine hAr.mono ?_
      rintro e w6 ⟨rfl, h6, f6⟩
      dsimp only
      have HN6 := Hid.of h6
      have HF6 := Hid.of (show Fr (fun q => q = S.pb ∨ q = l1.c) w4 w6 from (fr_of_up _ (Up.refl w4).drew).trans f6 (fun _ h => .inl h))
      clear h6 f6 hS hAr
      refine hK.out _ _ HF6.out (fun hS => ?_)
      clear hK K hS
      refine wpAnyH_done (by kernel_rfl) ?_ _
      have hstep : wLs (arrS { S with now := T } ((due S.pd T).take j)) p.i (arrL l1 p.m) = arrS { S with now := T } ((due S.pd T).take (j + 1)) := by
        rw [arrS_take _ HLT.out, HP.out]
        unfold arrS1
        rw [HL1.out]
      rw [hstep] at HN6
      have HR6 := Hid.of (And.intro HN6.out (HFr4.out.trans HF6.out (fun q hq => .inl (by
        rcases hq with rfl | rfl
        · exact .inr (.inl rfl)
        · exact (arrS_own ((due S.pd T).take j) { S with now := T } _).1 (.inr (.inr (.inr (.inl ⟨l1, get_mem HL1.out, rfl⟩))))))))
      have hjw : IntKind.i64.wrap ((j : Int) + 1) = (j : Int) + 1 := by
        have h1 := due_le S.pd T
        have h2 := HK.out.bd
        have h3 := HBD.out
        rw [IntKind.wrap_i64]; omega
      clear HN6 HF6 HFr4 HN4 HM4 HX4 HA4 HA3 hstep HU3 HPOS HL1 HMO HMV HP HPS HNr HFr HELS HLEN HLT
      go_wp2
      go_roundw
      case rel => exact ⟨j + 1, by simp, by omega, HR6⟩
      case measure => simp [intOf]; omega
    · have hltz : ¬ ((j : Int) < ((due S.pd T).length : Int)) := by omega
      obtain rfl : j = (due S.pd T).length := by omega
      obtain ⟨hNr, hFr⟩ := hR.out
      rw [List.take_length] at hNr
      obtain ⟨ls, els, hll⟩ := arrS_keep (due S.pd T) { S with now := T }
      have HELS := Hid.of (show (arrS { S with now := T } (due S.pd T)).nb = S.nb ∧ (arrS { S with now := T } (due S.pd T)).mb = S.mb ∧ (arrS { S with now := T } (due S.pd T)).now = T ∧ (arrS { S with now := T } (due S.pd T)).pd = S.pd ∧ (arrS { S with now := T } (due S.pd T)).rows = S.rows ∧ (arrS { S with now := T } (due S.pd T)).mn = S.mn by rw [els]; exact ⟨rfl, rfl, rfl, rfl, rfl, rfl⟩)
      have HNr := Hid.of hNr
      have HFr := Hid.of hFr
      have hnT : ¬ (arrS { S with now := T } (due S.pd T)).nb = S.mb := fun e => by
        obtain ⟨es, cl, hmap⟩ := hNr.mm.map
        have h1 := hNr.net.tag
        rw [e, ← HELS.out.2.1] at h1
        simp only [otag, hmap] at h1
        cases h1
      clear hNr hFr hR els hll
      go_wp2
      refine wp_region_held_drew (S := fun wz => Fr (fun q => q = S.mb) wx wz) (by kernel_rfl) ((Fr.refl _ wx).up (Up.refl wx).drew) (fun hS => ?_)
      refine wpAnyH_take (i := 0) (oi := { dst := some 36, op := Go.Op.move (Go.Operand.tmp 0), type := 22, pos := "pipe.go:64", after := #[], guard := none }) (v := .pointer (some ⟨S.nb, 0, none⟩)) rfl (by kernel_rfl) (by kernel_rfl) (by kernel_rfl) (fun _ _ _ h => h) (Or.inl ⟨by kernel_rfl, ?_⟩) hS ?_
      · intro w5 hSw
        clear hSw hS
        go_simp
      simp only [Act.put, List.setIfInBounds_toArray, List.set_cons_zero, List.set_cons_succ]
      refine wpAnyH_take (i := 1) (oi := { dst := some 37, op := Go.Op.nilCheck (Go.Operand.tmp 36), type := 0, pos := "pipe.go:64", after := #[{ on := 0, ground := Go.Ground.data }], guard := none }) (v := .pointer (some ⟨S.nb, 0, none⟩)) rfl (by kernel_rfl) (by kernel_rfl) (by kernel_rfl) (fun _ _ _ h => h) (Or.inl ⟨by kernel_rfl, ?_⟩) hS ?_
      · intro w5 hSw
        clear hSw hS
        go_simp
      simp only [Act.put, List.setIfInBounds_toArray, List.set_cons_zero, List.set_cons_succ]
      refine wpAnyH_take (i := 2) (oi := { dst := some 38, op := Go.Op.fieldAddr 84 (Go.Operand.tmp 37) 3, type := 0, pos := "pipe.go:64", after := #[{ on := 1, ground := Go.Ground.data }], guard := none }) (v := .pointer (some ⟨S.nb, 3, none⟩)) rfl (by kernel_rfl) (by kernel_rfl) (by kernel_rfl) (fun _ _ _ h => h) (Or.inl ⟨by kernel_rfl, ?_⟩) hS ?_
      · intro w5 hSw
        clear hSw hS
        go_simp
      simp only [Act.put, List.setIfInBounds_toArray, List.set_cons_zero, List.set_cons_succ]
      refine wpAnyH_take (i := 3) (oi := { dst := some 39, op := Go.Op.load 82 (Go.Operand.tmp 38), type := 82, pos := "pipe.go:64", after := #[{ on := 2, ground := Go.Ground.data }], guard := none }) (v := .map (some S.mb)) rfl (by kernel_rfl) (by kernel_rfl) (by kernel_rfl) (fun _ _ _ h => h) (Or.inl ⟨by kernel_rfl, ?_⟩) hS ?_
      · intro w5 hSw
        have h0 := (hSw.at HNr.out.net hnT).cell (i := 3) rfl
        rw [HELS.out.1, HELS.out.2.1] at h0
        clear hSw hS
        go_simp
      simp only [Act.put, List.setIfInBounds_toArray, List.set_cons_zero, List.set_cons_succ]
      refine wpAnyH_take (i := 4) (oi := { dst := some 40, op := Go.Op.move (Go.Operand.tmp 0), type := 22, pos := "pipe.go:64", after := #[], guard := none }) (v := .pointer (some ⟨S.nb, 0, none⟩)) rfl (by kernel_rfl) (by kernel_rfl) (by kernel_rfl) (fun _ _ _ h => h) (Or.inl ⟨by kernel_rfl, ?_⟩) hS ?_
      · intro w5 hSw
        clear hSw hS
        go_simp
      simp only [Act.put, List.setIfInBounds_toArray, List.set_cons_zero, List.set_cons_succ]
      refine wpAnyH_take (i := 5) (oi := { dst := some 41, op := Go.Op.nilCheck (Go.Operand.tmp 40), type := 0, pos := "pipe.go:64", after := #[{ on := 4, ground := Go.Ground.data }], guard := none }) (v := .pointer (some ⟨S.nb, 0, none⟩)) rfl (by kernel_rfl) (by kernel_rfl) (by kernel_rfl) (fun _ _ _ h => h) (Or.inl ⟨by kernel_rfl, ?_⟩) hS ?_
      · intro w5 hSw
        clear hSw hS
        go_simp
      simp only [Act.put, List.setIfInBounds_toArray, List.set_cons_zero, List.set_cons_succ]
      refine wpAnyH_take (i := 6) (oi := { dst := some 42, op := Go.Op.fieldAddr 84 (Go.Operand.tmp 41) 2, type := 0, pos := "pipe.go:64", after := #[{ on := 5, ground := Go.Ground.data }], guard := none }) (v := .pointer (some ⟨S.nb, 2, none⟩)) rfl (by kernel_rfl) (by kernel_rfl) (by kernel_rfl) (fun _ _ _ h => h) (Or.inl ⟨by kernel_rfl, ?_⟩) hS ?_
      · intro w5 hSw
        clear hSw hS
        go_simp
      simp only [Act.put, List.setIfInBounds_toArray, List.set_cons_zero, List.set_cons_succ]
      refine wpAnyH_take (i := 7) (oi := { dst := some 43, op := Go.Op.load 3 (Go.Operand.tmp 42), type := 3, pos := "pipe.go:64", after := #[{ on := 6, ground := Go.Ground.data }], guard := none }) (v := .int .i64 (T : Int)) rfl (by kernel_rfl) (by kernel_rfl) (by kernel_rfl) (fun _ _ _ h => h) (Or.inl ⟨by kernel_rfl, ?_⟩) hS ?_
      · intro w5 hSw
        have h0 := (hSw.at HNr.out.net hnT).cell (i := 2) rfl
        rw [HELS.out.1, HELS.out.2.2.1] at h0
        clear hSw hS
        go_simp
      simp only [Act.put, List.setIfInBounds_toArray, List.set_cons_zero, List.set_cons_succ]
      refine wpAnyH_ready (rs := [8]) (by kernel_rfl) (by simp) ?_
      refine AllReadyH.cons (o := { dst := none, op := Go.Op.call { callee := Go.Callee.builtin Go.Builtin.delete, args := #[Go.Operand.tmp 39, Go.Operand.tmp 43], argTypes := #[82, 3] }, type := 0, pos := "pipe.go:64", after := #[{ on := 3, ground := Go.Ground.data }, { on := 7, ground := Go.Ground.data }], guard := none }) rfl (fun K hK => ?_) AllReadyH.nil
      rw [if_pos (by kernel_rfl)]
      have hmm := (HNr.out.up (Up.refl wx).drew).mm
      rw [HELS.out.2.1, HELS.out.2.2.2.2.1, HELS.out.2.2.2.2.2] at hmm
      obtain ⟨w7, hdl, hM7, hg7⟩ := hmm.del hTb 0
      go_simp
      have HM7 := Hid.of hM7
      have HG7 := Hid.of (show wx.grownBy w7 (some S.mb) from ⟨hg7.os, hg7.tape, hg7.output, hg7.size, hg7.block⟩)
      clear hM7 hg7 hS hmm hdl
      refine hK.out _ _ ((Fr.refl _ wx).by HG7.out (fun q hq => .inl (Option.some.inj hq).symm)) (fun hS => ?_)
      clear hK K hS
      refine wpAnyH_done (by kernel_rfl) ?_ _
      go_wp2
      go_end0
      have hT := HTT.out
      subst hT
      have hN7 : NOk w7 (tkS S (S.now + 1)) := by
        have h1 := HNr.out.struck (S.now + 1) (w' := w7) (by rw [HELS.out.2.1, HELS.out.2.2.2.2.1, HELS.out.2.2.2.2.2]; exact HM7.out) (by rw [HELS.out.2.1]; exact HG7.out)
        rw [HELS.out.2.2.2.1, HELS.out.2.2.2.2.1] at h1
        exact h1
      have hown : ∀ x, own (tkS S (S.now + 1)) x → own S x := fun x hx => by
        rcases hx with hx | hx | hx | hx | ⟨t, ht⟩
        · exact (arrS_own (due S.pd (S.now + 1)) { S with now := S.now + 1 } x).1 (.inl hx)
        · exact (arrS_own (due S.pd (S.now + 1)) { S with now := S.now + 1 } x).1 (.inr (.inl hx))
        · exact (arrS_own (due S.pd (S.now + 1)) { S with now := S.now + 1 } x).1 (.inr (.inr (.inl hx)))
        · exact (arrS_own (due S.pd (S.now + 1)) { S with now := S.now + 1 } x).1 (.inr (.inr (.inr (.inl hx))))
        · have ht' : (if t = S.now + 1 then nilS else S.rows t).ownBlock = some x := ht
          by_cases e : t = S.now + 1
          · rw [if_pos e] at ht'; cases ht'
          · rw [if_neg e] at ht'
            exact .inr (.inr (.inr (.inr ⟨t, ht'⟩)))
      refine ⟨rfl, tkS S (S.now + 1), ⟨hN7, HK.out.tick, abs_tk S, HFr.out.by HG7.out (fun q hq => .inl (.inr (.inr (.inl (Option.some.inj hq).symm)))), fun x hx => .inl (hown x hx), fun x hx => .inl ?_, ?_, ?_, fun h x => Nat.le_trans (tk_cm S (S.now + 1) x) (h x)⟩, ?_⟩
      · obtain ⟨ls, els, _⟩ := arrS_keep (due S.pd (S.now + 1)) { S with now := S.now + 1 }
        rcases hx with hx | ⟨m, hm, hx⟩
        · have e : (tkS S (S.now + 1)).fv = S.fv := by
            show (arrS { S with now := S.now + 1 } (due S.pd (S.now + 1))).fv = _
            rw [els]
          rw [e] at hx
          exact .inl hx
        · refine .inr ⟨m, ?_, hx⟩
          rcases List.mem_append.1 hm with hm | hm
          · have hm' : m ∈ msgs (arrS { S with now := S.now + 1 } (due S.pd (S.now + 1))) := List.mem_append.2 (.inl hm)
            rcases arrS_msgs _ _ _ hm' with ⟨p, hp, rfl⟩ | h1
            · exact List.mem_append.2 (.inr (List.mem_map.2 ⟨p, (List.mem_filter.1 hp).1, rfl⟩))
            · exact h1
          · obtain ⟨p, hp, e⟩ := List.mem_map.1 hm
            exact List.mem_append.2 (.inr (List.mem_map.2 ⟨p, (List.mem_filter.1 hp).1, e⟩))
      · exact HELS.out.1
      · exact Nat.le_of_eq HELS.out.2.2.2.2.2
      · obtain ⟨ls, els, hll⟩ := arrS_keep (due S.pd (S.now + 1)) { S with now := S.now + 1 }
        apply List.ext_getElem?
        intro i
        rw [List.getElem?_map, List.getElem?_map]
        cases hq : S.ls[i]? with
        | some l =>
          obtain ⟨l', h1, _, h3⟩ := arrS_get (S := { S with now := S.now + 1 }) (ps := due S.pd (S.now + 1)) (i := i) (l := l) hq
          rw [show (tkS S (S.now + 1)).ls = (arrS { S with now := S.now + 1 } (due S.pd (S.now + 1))).ls from rfl, h1]
          simp [h3]
        | none =>
          rw [show (tkS S (S.now + 1)).ls = (arrS { S with now := S.now + 1 } (due S.pd (S.now + 1))).ls from rfl, els]
          rw [List.getElem?_eq_none (by rw [show ({ S with now := S.now + 1, ls := ls } : NS).ls.length = S.ls.length from hll]; exact List.getElem?_eq_none_iff.1 hq)]
end Go.Proofs.Ytdlfkdehfenemaa
