import Derived.Test.YtdlfkdehfenemaaQa
namespace Go.Proofs.Ytdlfkdehfenemaa
open Go.RowKit Go.Conc TextNum
/-! ### time leaps -/
def nxt (pd : List PC) (lim : Nat) : Nat := pd.foldl (fun l p => if p.t < l then p.t else l) lim
theorem nxt_take {pd : List PC} {j lim : Nat} (hj : j < pd.length) : nxt (pd.take (j + 1)) lim = if pd[j].t < nxt (pd.take j) lim then pd[j].t else nxt (pd.take j) lim := by
  unfold nxt
  rw [List.take_succ_eq_append_getElem hj, List.foldl_append]
  rfl
theorem lcl_get {ps : List PC} : ∀ {j : Nat} (hj : j < ps.length), (ps.flatMap lcl)[j * 3]? = some (.int .i64 ((ps[j]'hj).t : Int)) ∧ (ps.flatMap lcl)[j * 3 + 1]? = some (.int .i64 ((ps[j]'hj).i : Int)) ∧ (ps.flatMap lcl)[j * 3 + 2]? = some (ps[j]'hj).m.v := by
  induction ps with
  | nil => intro j hj; simp at hj
  | cons p r ih =>
    intro j hj
    cases j with
    | zero => exact ⟨rfl, rfl, rfl⟩
    | succ j =>
      have := ih (j := j) (by simpa using hj)
      rw [show (p :: r).flatMap lcl = [.int .i64 (p.t : Int), .int .i64 (p.i : Int), p.m.v] ++ r.flatMap lcl from rfl]
      rw [show (j + 1) * 3 = j * 3 + 3 by omega, show j * 3 + 3 + 1 = j * 3 + 1 + 3 by omega, show j * 3 + 3 + 2 = j * 3 + 2 + 3 by omega]
      simpa using this
theorem ROk.late_get {w : World} {R : RS} (h : ROk w R) {j : Nat} (hj : j < R.pd.length) : ∃ g c, R.lv = .slice (some ⟨g, 0, none⟩) R.pd.length c ∧ R.pd.length ≤ c ∧ w.rangeAt g (j * 3) (lcl R.pd[j]) := by
  obtain ⟨a, c, e, hc, _⟩ := row_n h.lo
  have ho := h.lo
  rw [e] at ho
  rcases ho.2 with ⟨_, h0⟩ | ⟨g, cap, cur, e1, _⟩
  · omega
  · injection e1 with e1 e2 e3
    subst e1
    refine ⟨g, c, e, hc, fun i u hu => ?_⟩
    have hi : i < 3 := (List.getElem?_eq_some_iff.1 hu).1
    have hx := lcl_get hj
    have hc := World.ownsRow.cells ho rfl (j * 3 + i) u (by
      rcases i with _ | _ | _ | i
      · rw [Nat.add_zero, hx.1]; exact hu
      · rw [hx.2.1]; exact hu
      · rw [hx.2.2]; exact hu
      · omega)
    rw [Addr.add_lit, Nat.zero_add] at hc
    exact hc
theorem ROk.late_len {w : World} {R : RS} (h : ROk w R) : ∃ a c, R.lv = .slice a R.pd.length c ∧ R.pd.length ≤ c := by
  obtain ⟨a, c, e, hc, _⟩ := row_n h.lo
  exact ⟨a, c, e, hc⟩
set_option maxRecDepth 100000 in
set_option maxHeartbeats 1000000 in
theorem Rnext_walk (w : World) (R : RS) (lim : Nat) (h : ROk w R) (hb : R.pd.length ≤ 1099511627776) : Calls Try.prog 73 #[.pointer (some ⟨R.nb, 0, none⟩), .int .i64 (lim : Int)] w fun e w' => e = .returned (.int .i64 (nxt R.pd lim : Int)) ∧ w' = w := by
  have c5 := h.net.cell (i := 5) rfl
  obtain ⟨la, lc, hlv, hlc⟩ := h.late_len
  rw [hlv] at c5
  have HN := Hid.of h
  have HLV := Hid.of hlv
  clear h hlv
  obtain ⟨n, hn⟩ : ∃ n, R.pd.length = n := ⟨_, rfl⟩
  have HNN := Hid.of (And.intro hn trivial)
  rw [hn] at hlc c5 hb HLV
  clear hn
  go_enter Try.func73, Try.ntmps73
  go_wp2
  go_loopw [1, 5] (fun v1 v5 wr => ∃ j : Nat, v5 = .int .i64 (j : Int) ∧ j ≤ n ∧ v1 = .int .i64 (nxt (R.pd.take j) lim : Int) ∧ Hid (wr = w)) (fun _ v5 _ => n - (intOf v5).toNat)
  case atStart => exact ⟨0, rfl, by omega, rfl, Hid.of rfl⟩
  case round =>
    obtain ⟨j, rfl, hj, rfl, hW⟩ := hrel
    obtain rfl := hW.out.symm
    clear hW
    by_cases hlt : j < n
    · have hltz : (j : Int) < (n : Int) := by omega
      have hjl : j < R.pd.length := by rw [HNN.out.1]; exact hlt
      obtain ⟨g, c9, e9, _, hr⟩ := HN.out.late_get hjl
      rw [HLV.out, HNN.out.1] at e9
      injection e9 with e9 e8 e7
      clear e8
      subst e9
      subst e7
      have k0 := hr 0 _ rfl
      rw [Nat.add_zero] at k0
      have HT := Hid.of (And.intro (nxt_take (lim := lim) hjl) trivial)
      obtain ⟨p, hp⟩ : ∃ p, R.pd[j] = p := ⟨_, rfl⟩
      rw [hp] at k0 HT
      have hcz : (n : Int) ≤ (lc : Int) := by omega
      have hjw : IntKind.i64.wrap ((j : Int) + 1) = (j : Int) + 1 := by rw [IntKind.wrap_i64]; omega
      clear hr hp hjl
      obtain ⟨m, hm⟩ : ∃ m, nxt (R.pd.take j) lim = m := ⟨_, rfl⟩
      rw [hm] at HT ⊢
      clear hm
      by_cases hpm : p.t < m
      · have hpz : (p.t : Int) < (m : Int) := by omega
        have HT2 := Hid.of (And.intro (show nxt (R.pd.take (j + 1)) lim = p.t by rw [HT.out.1, if_pos hpm]) trivial)
        clear HT
        go_wp2
        go_roundw
        case rel => exact ⟨j + 1, by simp, by omega, by rw [HT2.out.1], Hid.of trivial⟩
        case measure => simp [intOf]; omega
      · have hpz : ¬ (p.t : Int) < (m : Int) := by omega
        have HT2 := Hid.of (And.intro (show nxt (R.pd.take (j + 1)) lim = m by rw [HT.out.1, if_neg hpm]) trivial)
        clear HT
        go_wp2
        go_roundw
        case rel => exact ⟨j + 1, by simp, by omega, by rw [HT2.out.1], Hid.of trivial⟩
        case measure => simp [intOf]; omega
    · have hltz : ¬ (j : Int) < (n : Int) := by omega
      obtain rfl : j = n := by omega
      have HT2 := Hid.of (And.intro (show nxt (R.pd.take j) lim = nxt R.pd lim by rw [List.take_of_length_le (by rw [HNN.out.1]; exact Nat.le_refl _)]) trivial)
      go_wp2
      go_ret
      rw [HT2.out.1]
      exact ⟨rfl, rfl⟩
/-- the time is t; what is due then comes -/
def reachA (A : AN) (t : Nat) : AN := { arrA { A with now := t } (A.pd.filter fun p => p.1 == t) with pd := A.pd.filter fun p => p.1 != t }
theorem tick_reach (A : AN) : tickA A = reachA A (A.now + 1) := rfl
def rst (pd : List PC) (t : Nat) : List PC := pd.filter fun p => p.t != t
theorem arrA_snoc (A : AN) (ps : List (Nat × Nat × List UInt8)) (p : Nat × Nat × List UInt8) : arrA A (ps ++ [p]) = putA (arrA A ps) p.2.1 p.2.2 := by simp [arrA]
structure RI (w wr : World) (R Rj : RS) (t j : Nat) (v : Value) : Prop where
  st : RStp 0 w wr R Rj (arrA { absR R with now := t } ((due (R.pd.take j) t).map absP))
  ms : ∀ m ∈ rmsgs Rj, m ∈ rmsgs R
  pd : Rj.pd = R.pd
  lv : Rj.lv = R.lv
  now : Rj.now = t
  fv : Rj.fv = R.fv
  sn : Rj.st = R.st
  rs : wr.ownsRow w.heap.size 148 3 v (rst (R.pd.take j) t).length ((rst (R.pd.take j) t).flatMap lcl)
theorem RI.off {w wr : World} {R Rj : RS} {t j : Nat} {v : Value} (h : RI w wr R Rj t j v) (h0 : ROk w R) : ∀ g, v.ownBlock = some g → ¬ rown Rj g ∧ ¬ rrd Rj g := fun g hg => by
  have tt := row_tag h.rs hg
  have lo := (World.ownsRow.lt h.rs g hg).1
  refine ⟨fun e => ?_, fun e => ?_⟩
  · rcases e with rfl | e | e | e | ⟨l, hl, e⟩
    · rw [h.st.ok.net.tag] at tt; cases tt
    · rw [row_tag h.st.ok.wo e] at tt; cases tt
    · rw [row_tag h.st.ok.so e] at tt; cases tt
    · rw [h.lv] at e
      have := (World.ownsRow.lt h0.lo g e).2
      omega
    · rw [(h.st.ok.rw l hl).tag e] at tt; cases tt
  · rcases h.st.ok.tagr e with h | h <;> rw [tt] at h <;> cases h
theorem RI.up {w w1 w2 : World} {R Rj : RS} {t j : Nat} {v : Value} (h : RI w w1 R Rj t j v) (u : Up w1 w2) : RI w w2 R Rj t j v := ⟨h.st.up' u, h.ms, h.pd, h.lv, h.now, h.fv, h.sn, ow_up h.rs u⟩
theorem due_take {pd : List PC} {j t : Nat} (hj : j < pd.length) : due (pd.take (j + 1)) t = due (pd.take j) t ++ if pd[j].t = t then [pd[j]] else [] := by
  unfold due
  rw [List.take_succ_eq_append_getElem hj, List.filter_append]
  congr 1
  by_cases h : pd[j].t = t <;> simp [h]
theorem rst_take {pd : List PC} {j t : Nat} (hj : j < pd.length) : rst (pd.take (j + 1)) t = rst (pd.take j) t ++ if pd[j].t = t then [] else [pd[j]] := by
  unfold rst
  rw [List.take_succ_eq_append_getElem hj, List.filter_append]
  congr 1
  by_cases h : pd[j].t = t <;> simp [h]
/-- one that is due has come -/
theorem RI.come {w w1 w2 : World} {R Rj : RS} {t j : Nat} {v : Value} (h : RI w w1 R Rj t j v) (h0 : ROk w R) (hj : j < R.pd.length) (ht : R.pd[j].t = t) {l : RC} (hl : Rj.ws[R.pd[j].i]? = some l) {v' : Value}
    (s : RStp 0 w1 w2 Rj (wWs Rj R.pd[j].i (comeR l R.pd[j].m v')) (putA (absR Rj) R.pd[j].i R.pd[j].m.d)) : RI w w2 R (wWs Rj R.pd[j].i (comeR l R.pd[j].m v')) t (j + 1) v := by
  refine ⟨?_, fun m hm => ?_, h.pd, h.lv, h.now, h.fv, h.sn, ?_⟩
  · rw [due_take hj, if_pos ht, List.map_append, List.map_cons, List.map_nil, arrA_snoc, ← h.st.ab]
    exact h.st.trans s
  · rcases rmsgs_set hm with h1 | h1
    · unfold comeR at h1
      split at h1
      · rcases List.mem_append.1 h1 with h1 | h1
        · exact h.ms m (List.mem_append.2 (.inl (List.mem_flatMap.2 ⟨l, get_mem hl, h1⟩)))
        · obtain rfl := List.mem_singleton.1 h1
          exact List.mem_append.2 (.inr (List.mem_map.2 ⟨_, List.getElem_mem hj, rfl⟩))
      · exact h.ms m (List.mem_append.2 (.inl (List.mem_flatMap.2 ⟨l, get_mem hl, h1⟩)))
    · exact h.ms m h1
  · rw [rst_take hj, if_pos ht, List.append_nil]
    exact s.fr.own h.rs (fun g hg => (h.off h0 g hg).1)
/-- one that is not due is kept -/
theorem RI.keep {w w1 w2 : World} {R Rj : RS} {t j : Nat} {v v' : Value} (h : RI w w1 R Rj t j v) (h0 : ROk w R) (hj : j < R.pd.length) (ht : R.pd[j].t ≠ t) (hb : w1.grownBy w2 v.ownBlock)
    (hr : w2.ownsRow w.heap.size 148 3 v' ((rst (R.pd.take j) t).length + 1) ((rst (R.pd.take j) t).flatMap lcl ++ lcl R.pd[j])) : RI w w2 R Rj t (j + 1) v' := by
  have hf : Fr (fun k => v.ownBlock = some k) w1 w2 := (Fr.refl _ w1).by hb (fun g hg => .inl hg)
  refine ⟨?_, h.ms, h.pd, h.lv, h.now, h.fv, h.sn, ?_⟩
  · rw [due_take hj, if_neg ht, List.append_nil]
    exact ⟨h.st.ok.fr hf (fun g hg e => (h.off h0 g e).1 hg) (fun g hg e => (h.off h0 g e).2 hg), h.st.ab, h.st.fr.by hb (fun g hg => .inr (World.ownsRow.lt h.rs g hg).1), h.st.no, h.st.nr, h.st.nb, h.st.fs, h.st.ln⟩
  · rw [rst_take hj, if_neg ht, List.flatMap_append, List.length_append]
    simpa using hr
set_option maxRecDepth 100000 in
set_option maxHeartbeats 2000000 in
theorem Rreach_walk (w : World) (R : RS) (t : Nat) (h : ROk w R) (hi : ∀ p ∈ R.pd, p.i < R.ws.length) (hb : R.pd.length ≤ 1099511627776) :
    Calls Try.prog 74 #[.pointer (some ⟨R.nb, 0, none⟩), .int .i64 (t : Int)] w fun e w' => e = .returned (.tuple #[]) ∧ ∃ R', RStp w.heap.size w w' R R' (reachA (absR R) t) ∧ R'.pd.length ≤ R.pd.length ∧ R'.st = R.st := by
  have c0 := h.net.cell (i := 0) rfl
  have t0 := h.net.thaw 0
  have hA1 := h.net.set 0 (.int .i64 (t : Int))
  simp only [List.set_cons_zero] at hA1
  have hg1 := grown_at w R.nb 0 (.int .i64 (t : Int))
  have HN := Hid.of h
  have HI0 := Hid.of (show RI w (w.setCell ⟨R.nb, 0, none⟩ (.int .i64 (t : Int))) R { R with now := t } t 0 nilS from
    ⟨⟨h.netw hg1 t R.st hA1, rfl, (Fr.refl _ _).by hg1 (fun g hg => .inl (.inl (Option.some.inj hg).symm)), fun x hx => .inl hx, fun x hx => .inl hx, rfl, rfl, rfl⟩, fun m hm => hm, rfl, rfl, rfl, rfl, rfl, World.ownsRow_nil _ _ _ _⟩)
  have HIX := Hid.of hi
  obtain ⟨ib, iba, ibb, ibc, ibd⟩ := info_parts infoLate
  obtain ⟨la, lc, hlv, hlc⟩ := h.late_len
  have HLV := Hid.of hlv
  obtain ⟨n, hn⟩ : ∃ n, R.pd.length = n := ⟨_, rfl⟩
  have HNN := Hid.of (And.intro hn trivial)
  rw [hn] at hlc hb HLV
  clear h hA1 hg1 hlv hi hn
  go_enter Try.func74, Try.ntmps74
  go_wp2
  generalize w.setCell ⟨R.nb, 0, none⟩ (.int .i64 (t : Int)) = W0 at *
  clear c0 t0
  go_loopw [4, 5] (fun v4 v5 wr => ∃ j : Nat, v5 = .int .i64 (j : Int) ∧ j ≤ n ∧ Hid (∃ Rj, RI w wr R Rj t j v4)) (fun _ v5 _ => n - (intOf v5).toNat)
  case atStart => exact ⟨0, rfl, by omega, Hid.of ⟨_, HI0.out⟩⟩
  case round =>
    clear HI0
    obtain ⟨j, rfl, hj, hR⟩ := hrel
    obtain ⟨Rj, hI⟩ := hR.out
    obtain ⟨ra, rk, rc, rfl⟩ := row_any hI.rs
    have HI := Hid.of hI
    have hnb : Rj.nb = R.nb := hI.st.nb
    have HNB := Hid.of hnb
    have c5 := hI.st.ok.net.cell (i := 5) rfl
    rw [hI.lv, HLV.out, hnb] at c5
    clear hI hR hnb
    by_cases hlt : j < n
    · have hltz : (j : Int) < (n : Int) := by omega
      have hjl : j < R.pd.length := by rw [HNN.out.1]; exact hlt
      have hjl2 : j < Rj.pd.length := by rw [HI.out.pd]; exact hjl
      obtain ⟨g, c9, e9, _, hr⟩ := HI.out.st.ok.late_get hjl2
      rw [HI.out.lv, HLV.out, HI.out.pd, HNN.out.1] at e9
      injection e9 with e9 e8 e7
      clear e8
      subst e9
      subst e7
      have hpe : Rj.pd[j] = R.pd[j] := by simp only [HI.out.pd]
      rw [hpe] at hr
      obtain ⟨p, hp⟩ : ∃ p, R.pd[j] = p := ⟨_, rfl⟩
      rw [hp] at hr
      have HP := Hid.of hp
      obtain ⟨pt, pi, ⟨pv, pdt⟩⟩ := p
      have hpm : Ow wr 0 pv pdt := HI.out.st.ok.ms ⟨pv, pdt⟩ (List.mem_append.2 (.inr (List.mem_map.2 ⟨Rj.pd[j], List.getElem_mem hjl2, by rw [hpe, hp]⟩)))
      obtain ⟨ma, mc, rfl, hmc, _⟩ := Ow.sb hpm
      have hil : pi < Rj.ws.length := by
        have := HIX.out _ (List.getElem_mem hjl)
        rw [hp] at this
        rw [HI.out.st.ln]
        exact this
      have HIL := Hid.of hil
      have HPM := Hid.of hpm
      have HR := Hid.of hr
      have HJL := Hid.of hjl
      have hcz : (n : Int) ≤ (lc : Int) := by omega
      have hjw : IntKind.i64.wrap ((j : Int) + 1) = (j : Int) + 1 := by rw [IntKind.wrap_i64]; omega
      have k0 := hr 0 _ rfl
      have k1 := hr 1 _ rfl
      have k2 := hr 2 _ rfl
      rw [Nat.add_zero] at k0
      have HUx := Hid.of ((Up.refl wr).alloc (.cells #[.int .i64 0, .int .i64 0, .slice none 0 0] 148))
      have HAx := Hid.of (at_new wr 148 [.int .i64 0, .int .i64 0, .slice none 0 0])
      clear hr hp hpe hjl2 hpm hil
      go_wp2_with (with_reducible show wpList _ _ _ ({ dst := _, op := Op.store 148 _ _, type := _, pos := _, after := _, guard := _ } :: _) _ _; refine Shut.out ?_)
      show wpList _ _ _ _ _ _
      clear k0 k1 k2
      generalize wr.alloc (.cells #[.int .i64 0, .int .i64 0, .slice none 0 0] 148) = W1 at *
      have HBL := Hid.of (Nat.le_refl wr.heap.size)
      generalize hbl : wr.heap.size = bl at HBL HAx ⊢
      have HBE := Hid.of hbl
      clear hbl
      refine wpList_store_at rfl 148 _ _ rfl bl HAx.out [.int .i64 (pt : Int), .int .i64 (pi : Int), .slice ma pdt.length mc] rfl rfl rfl (by kernel_rfl) (by kernel_rfl) ?_
      intro w2 a2 g2
      have hU2 : Up wr w2 := HUx.out.by g2 (fun x hx => by have := Option.some.inj hx; have := HBE.out; omega)
      have HA2 := Hid.of a2
      have HI2 := Hid.of (HI.out.up hU2)
      have HPM2 := Hid.of (show Ow w2 0 (.slice ma pdt.length mc) pdt from ow_up HPM.out hU2)
      clear a2 g2 hU2 HUx HAx HI HR HPM c5
      simp only [Act.put]
      have b0 := HA2.out.cell (i := 0) rfl
      have b1 := HA2.out.cell (i := 1) rfl
      have b2 := HA2.out.cell (i := 2) rfl
      by_cases hpt : pt = t
      · have hptz : ((pt : Int) == (t : Int)) = true := by simp; omega
        have hpte : (pt : Int) = (t : Int) := by omega
        have hC := Rcome_walk w2 Rj pi _ ⟨.slice ma pdt.length mc, pdt⟩ HI2.out.st.ok (List.getElem?_eq_getElem HIL.out) HPM2.out (N := 0) (fun _ _ => Nat.zero_le _)
        rw [HNB.out] at hC
        dsimp only at hC
        have HPT := Hid.of hpt
        clear hpt hptz
        go_wp2_with fail
        refine hC.mono ?_
        rintro e w4 ⟨rfl, v', h4⟩
        have hx : RI w w4 R (wWs Rj R.pd[j].i (comeR (Rj.ws[pi]'HIL.out) R.pd[j].m v')) t (j + 1) (.slice ra rk rc) := HI2.out.come HN.out HJL.out (by rw [HP.out]; exact HPT.out) (l := Rj.ws[pi]'HIL.out) (by rw [HP.out]; exact List.getElem?_eq_getElem HIL.out) (by rw [HP.out]; exact h4)
        have HX := Hid.of (show ∃ Rj, RI w w4 R Rj t (j + 1) (.slice ra rk rc) from ⟨_, hx⟩)
        clear hx h4 hC HI2 HPM2 HA2
        dsimp only
        go_wp2
        go_roundw
        case rel => exact ⟨j + 1, by simp, by omega, HX⟩
        case measure => simp [intOf]; omega
      · have hptz : ((pt : Int) == (t : Int)) = false := by simp; omega
        have hpte : ¬ (pt : Int) = (t : Int) := by omega
        have HPT := Hid.of hpt
        clear hpt hptz
        go_wp2_with (with_reducible show wpList _ _ _ ({ dst := _, op := Op.load 148 _, type := _, pos := _, after := _, guard := _ } :: _) _ _; refine Shut.out ?_)
        show wpList _ _ _ _ _ _
        refine wpList_load_mid rfl _ _ rfl bl 0 rfl [.int .i64 (pt : Int), .int .i64 (pi : Int), .slice ma pdt.length mc] _ HA2.out.range Try.underlying148 rfl (by kernel_rfl) ?_
        simp only [Act.put, List.setIfInBounds_toArray, List.set_cons_zero, List.set_cons_succ]
        have HU3 := Hid.of ((Up.refl w2).alloc (.cells #[.int .i64 (pt : Int), .int .i64 (pi : Int), .slice ma pdt.length mc] 148))
        have HA3 := Hid.of (at_new w2 148 [.int .i64 (pt : Int), .int .i64 (pi : Int), .slice ma pdt.length mc])
        go_wp2_with (with_reducible show wpList _ _ _ ({ dst := _, op := Op.call { callee := Callee.builtin Builtin.append, args := _, argTypes := _ }, type := _, pos := _, after := _, guard := _ } :: _) _ _; refine Shut.out ?_)
        show wpList _ _ _ _ _ _
        generalize hW3 : w2.alloc (.cells #[.int .i64 (pt : Int), .int .i64 (pi : Int), .slice ma pdt.length mc] 148) = W3 at *
        have hrl : (rst (R.pd.take j) t).length ≤ 1099511627776 := by
          have h1 := List.length_filter_le (fun p : PC => p.t != t) (R.pd.take j)
          have h2 := HNN.out.1
          have h3 : (R.pd.take j).length ≤ R.pd.length := by rw [List.length_take]; omega
          unfold rst
          omega
        refine wpList_append_own _ rfl _ _ 112 rfl w.heap.size 148 ib (.agg #[.int .i64 0, .int .i64 0, nilS]) 3 40 Try.underlying112 iba ibb ibc ibd rfl (by decide) (.slice ra rk rc) _ _ rfl (ow_up HI2.out.rs HU3.out) ⟨w2.heap.size, 0, none⟩ 1 1 [.int .i64 (pt : Int), .int .i64 (pi : Int), .slice ma pdt.length mc] rfl rfl (fun j u hu => by rw [Addr.add_lit, Nat.zero_add]; exact HA3.out.cell hu) (fun u hu => by
          simp only [List.mem_cons, List.not_mem_nil, or_false] at hu
          rcases hu with rfl | rfl | rfl <;> rfl) (by simp only [maxLen]; omega) (by omega) (Nat.le_trans HI2.out.st.fr.size HU3.out.size) ?_
        intro v4 w4 o4 g4 _
        have HX := Hid.of (show ∃ Rj, RI w w4 R Rj t (j + 1) v4 from ⟨Rj, (HI2.out.up HU3.out).keep HN.out HJL.out (by rw [HP.out]; exact HPT.out) g4 (by rw [HP.out]; exact o4)⟩)
        clear o4 g4 HI2 HPM2 HA2 HU3 HA3 hW3 hrl b0 b1 b2
        simp only [Act.put, List.setIfInBounds_toArray, List.set_cons_zero, List.set_cons_succ]
        go_wp2
        go_roundw
        case rel => exact ⟨j + 1, by simp, by omega, HX⟩
        case measure => simp [intOf]; omega
    · have hltz : ¬ (j : Int) < (n : Int) := by omega
      obtain rfl : j = n := by omega
      have c5' := HI.out.st.ok.net.cell (i := 5) rfl
      have t5 := HI.out.st.ok.net.thaw 5
      have hA6 := HI.out.st.ok.net.set 5 (.slice ra rk rc)
      simp only [List.set_cons_zero, List.set_cons_succ] at hA6
      rw [HNB.out] at c5' t5 hA6
      have HA6 := Hid.of hA6
      have HG6 := Hid.of (grown_at wr R.nb 5 (.slice ra rk rc))
      clear hA6 c5'
      go_wp2
      go_end0
      generalize wr.setCell ⟨R.nb, 5, none⟩ (.slice ra rk rc) = W6 at *
      have htk : R.pd.take j = R.pd := List.take_of_length_le (by rw [HNN.out.1]; exact Nat.le_refl _)
      have hrs := HI.out.rs
      have hab := HI.out.st.ab
      rw [htk] at hrs hab
      have hf : Fr (fun k => k = R.nb) wr W6 := (Fr.refl _ wr).by HG6.out (fun g hg => .inl (Option.some.inj hg).symm)
      have no : ∀ k t, otag wr k = some t → t ≠ 114 → ¬ k = R.nb := fun k t ht h1 e => by
        subst e
        have h2 := HI.out.st.ok.net.tag
        rw [HNB.out] at h2
        rw [h2] at ht
        exact h1 (Option.some.inj ht).symm
      have K := HI.out.st.ok
      refine ⟨rfl, { Rj with lv := .slice ra rk rc, pd := rst R.pd t }, ⟨⟨?_, hf.own K.ft (fun g hg => no g _ (row_tag K.ft hg) (by decide)), hf.own K.wo (fun g hg => no g _ (row_tag K.wo hg) (by decide)), hf.own K.so (fun g hg => no g _ (row_tag K.so hg) (by decide)), ?_, fun l hl => hf.ownz (K.rw l hl) (fun g hg => no g _ ((K.rw l hl).tag hg) (by decide)), K.dis, fun m hm => ?_⟩, ?_, ?_, fun x hx => ?_, fun x hx => ?_, HI.out.st.nb, HI.out.st.fs, HI.out.st.ln⟩, ?_, HI.out.sn⟩
      · show At W6 Rj.nb 114 _
        rw [HNB.out]
        exact HA6.out
      · exact ow_base (hf.own hrs (fun g hg => no g _ (row_tag hrs hg) (by decide))) (Nat.zero_le _)
      · have hm' : m ∈ rmsgs Rj := by
          unfold rmsgs at hm ⊢
          rcases List.mem_append.1 hm with h1 | h1
          · exact List.mem_append.2 (.inl h1)
          · obtain ⟨p, hp, e⟩ := List.mem_map.1 h1
            exact List.mem_append.2 (.inr (List.mem_map.2 ⟨p, by rw [HI.out.pd]; exact (List.mem_filter.1 hp).1, e⟩))
        exact hf.own (K.ms m hm') (fun g hg => no g _ (row_tag (K.ms m hm') hg) (by decide))
      · have e1 : (absR R).pd.filter (fun p => p.1 == t) = (due R.pd t).map absP := by
          unfold due absR
          rw [List.filter_map]
          rfl
        have e2 : (absR R).pd.filter (fun p => p.1 != t) = (rst R.pd t).map absP := by
          unfold rst absR
          rw [List.filter_map]
          rfl
        unfold reachA
        rw [e1, e2, ← hab]
        rfl
      · exact HI.out.st.fr.by HG6.out (fun g hg => .inl (.inl (Option.some.inj hg).symm))
      · rcases hx with hx | hx | hx | hx | hx
        · exact HI.out.st.no x (.inl hx)
        · exact HI.out.st.no x (.inr (.inl hx))
        · exact HI.out.st.no x (.inr (.inr (.inl hx)))
        · exact .inr (World.ownsRow.lt hrs x hx).1
        · exact HI.out.st.no x (.inr (.inr (.inr (.inr hx))))
      · rcases hx with hx | ⟨y, hy, hx⟩
        · exact .inl (.inl (by rw [← HI.out.fv]; exact hx))
        · refine .inl (.inr ⟨y, HI.out.ms y ?_, hx⟩)
          unfold rmsgs at hy ⊢
          rcases List.mem_append.1 hy with h1 | h1
          · exact List.mem_append.2 (.inl h1)
          · obtain ⟨p, hp, e⟩ := List.mem_map.1 h1
            exact List.mem_append.2 (.inr (List.mem_map.2 ⟨p, by rw [HI.out.pd]; exact (List.mem_filter.1 hp).1, e⟩))
      · exact List.length_filter_le _ _
end Go.Proofs.Ytdlfkdehfenemaa
namespace Go.Proofs.Ytdlfkdehfenemaa
open Go.RowKit Go.Conc TextNum
/-- a list of lanes that is read -/
def LnR (w : World) (v : Value) (is : List Nat) : Prop := ∃ b o c, v = .slice (some ⟨b, o, none⟩) is.length c ∧ is.length ≤ c ∧ ∀ (j i : Nat), is[j]? = some i → w.cell? ⟨b, o + j, none⟩ = some (.int .i64 (i : Int))
theorem LnR.fr {T : Nat → Prop} {w w' : World} {v : Value} {is : List Nat} (h : LnR w v is) (k : Fr T w w') (hv : ∀ g, v.ownBlock = some g → ¬ T g) : LnR w' v is := by
  obtain ⟨b, o, c, rfl, h1, h2⟩ := h
  refine ⟨b, o, c, rfl, h1, fun j i hj => ?_⟩
  have hc := h2 j i hj
  rw [World.cell?_of_block (a := ⟨b, o + j, none⟩) (k.block b (World.block_lt_of_cell? w _ hc) (hv b rfl))]
  exact hc
theorem LnR.up {w w' : World} {v : Value} {is : List Nat} (h : LnR w v is) (u : Up w w') : LnR w' v is := h.fr (fr_of_up (fun _ => False) u) (fun _ _ h => h)
theorem absR_ls {R : RS} {i : Nat} {l : RC} (hl : R.ws[i]? = some l) : (absR R).ls[i]? = some (l.ms.map (·.d), l.sh) := by
  unfold absR
  dsimp only
  rw [List.getElem?_map, hl]
  rfl
theorem endA_R {R : RS} {i : Nat} {l : RC} (hl : R.ws[i]? = some l) : endA (absR R) i = (l.sh && !(R.pd.any fun p => p.i == i)) := by
  unfold endA
  rw [absR_ls hl]
  show (l.sh && !(R.pd.map absP).any fun p => p.2.1 == i) = _
  congr 1
  rw [List.any_map]
  rfl
theorem hasA_R {R : RS} {i : Nat} {l : RC} (hl : R.ws[i]? = some l) : hasA (absR R) i = !l.ms.isEmpty := by
  unfold hasA
  rw [absR_ls hl]
  cases l.ms <;> rfl
theorem all_take {p : Nat → Bool} {l : List Nat} {k : Nat} (hk : k < l.length) (h : (l.take k).all p = true) (hp : p l[k] = true) : (l.take (k + 1)).all p = true := by
  rw [List.take_succ_eq_append_getElem hk, List.all_append, h]
  simp [hp]
theorem all_false {p : Nat → Bool} {l : List Nat} {k : Nat} (hk : k < l.length) (hp : p l[k] = false) : l.all p = false := by
  rw [List.all_eq_false]
  exact ⟨l[k], List.getElem_mem hk, by simp [hp]⟩
set_option maxRecDepth 100000 in
set_option maxHeartbeats 2000000 in
theorem Rover_walk (w : World) (R : RS) (v : Value) (is : List Nat) (h : ROk w R) (hL : LnR w v is) (hlt : ∀ i ∈ is, i < R.ws.length) (hn : is.length ≤ 64) (hb : R.pd.length ≤ 1099511627776) :
    Calls Try.prog 81 #[.pointer (some ⟨R.nb, 0, none⟩), v] w fun e w' => e = .returned (.bool (is.all (endA (absR R)))) ∧ Up w w' := by
  obtain ⟨lb, lo, lk, rfl, hlk, hcl⟩ := hL
  obtain ⟨sa, sc, hsv⟩ := row_len h.so
  obtain ⟨la, lc, hlv, hlc⟩ := h.late_len
  have HC4 := Hid.of (show ∀ w5, Up w w5 → w5.cell? ⟨R.nb, 4, none⟩ = some (.slice sa R.ws.length sc) from fun w5 hu => by
    have := hu.cell (h.net.cell (i := 4) rfl)
    rw [hsv] at this
    exact this)
  have HC5 := Hid.of (show ∀ w5, Up w w5 → w5.cell? ⟨R.nb, 5, none⟩ = some (.slice la R.pd.length lc) from fun w5 hu => by
    have := hu.cell (h.net.cell (i := 5) rfl)
    rw [hlv] at this
    exact this)
  have HSV := Hid.of hsv
  have HLV := Hid.of hlv
  have HN := Hid.of h
  have HCL := Hid.of hcl
  have HLT := Hid.of hlt
  obtain ⟨n, hne⟩ : ∃ n, is.length = n := ⟨_, rfl⟩
  have HNN := Hid.of (And.intro hne trivial)
  obtain ⟨m, hme⟩ : ∃ m, R.pd.length = m := ⟨_, rfl⟩
  have HMM := Hid.of (And.intro hme trivial)
  rw [hne] at hlk hn ⊢
  rw [hme] at hlc hb HC5 HLV
  generalize hq : is.all (endA (absR R)) = q
  have HQ := Hid.of (And.intro hq trivial)
  clear h hcl hlt hsv hlv hne hme hq
  go_enter Try.func81, Try.ntmps81
  go_wp2
  go_loopw [5, 6] (fun v5 _ wr => ∃ k : Nat, v5 = .int .i64 (k : Int) ∧ k ≤ n ∧ Hid ((is.take k).all (endA (absR R)) = true ∧ Up w wr)) (fun v5 _ _ => n - (intOf v5).toNat)
  case atStart => exact ⟨0, rfl, by omega, Hid.of ⟨rfl, Up.refl _⟩⟩
  case round =>
    obtain ⟨k, rfl, hk, hR⟩ := hrel
    by_cases hkn : k < n
    · have hkz : (k : Int) < (n : Int) := by omega
      have hkl : k < is.length := by rw [HNN.out.1]; exact hkn
      obtain ⟨i, hi⟩ : ∃ i, is[k] = i := ⟨_, rfl⟩
      have hiw : i < R.ws.length := by rw [← hi]; exact HLT.out _ (List.getElem_mem hkl)
      obtain ⟨l, hl⟩ : ∃ l, R.ws[i]? = some l := ⟨_, List.getElem?_eq_getElem hiw⟩
      obtain ⟨sb, sc', e9, hsc, hcs⟩ := HN.out.sh_cell hl
      rw [HSV.out] at e9
      injection e9 with e9 e8 e7
      clear e8
      subst e9
      subst e7
      have HIK := Hid.of hi
      have HLL := Hid.of hl
      have HLI := Hid.of (show ∀ w5, Up w w5 → w5.cell? ⟨lb, lo + k, none⟩ = some (.int .i64 (i : Int)) from fun w5 hu => hu.cell (HCL.out k i (by rw [List.getElem?_eq_getElem hkl, hi])))
      have HSC := Hid.of (show ∀ w5, Up w w5 → w5.cell? ⟨sb, i, none⟩ = some (.bool l.sh) from fun w5 hu => hu.cell hcs)
      have hkw : IntKind.i64.wrap ((k : Int) + 1) = (k : Int) + 1 := by rw [IntKind.wrap_i64]; omega
      have hlkz : (n : Int) ≤ (lk : Int) := by omega
      have hiz : (i : Int) < (R.ws.length : Int) := by omega
      have hscz : (R.ws.length : Int) ≤ (sc : Int) := by omega
      have HR := Hid.of hR.out
      clear hR hi hl hcs hiw
      go_wp2
      refine wp_region_held_drew (S := fun w2 => Up wr w2) (by kernel_rfl) ((Up.refl wr).drew) (fun hS => ?_)
      refine wpAnyH_take (i := 0) (oi := { dst := some 13, op := Go.Op.move (Go.Operand.tmp 0), type := 35, pos := "ref.go:182", after := #[], guard := none }) (v := .pointer (some ⟨R.nb, 0, none⟩)) rfl (by kernel_rfl) (by kernel_rfl) (by kernel_rfl) (fun _ _ _ h => h) (Or.inl ⟨by kernel_rfl, ?_⟩) hS ?_
      · intro w5 hSw
        clear hSw hS
        go_simp
      simp only [Act.put, List.setIfInBounds_toArray, List.set_cons_zero, List.set_cons_succ]
      refine wpAnyH_take (i := 1) (oi := { dst := some 14, op := Go.Op.nilCheck (Go.Operand.tmp 13), type := 0, pos := "ref.go:182", after := #[{ on := 0, ground := Go.Ground.data }], guard := none }) (v := .pointer (some ⟨R.nb, 0, none⟩)) rfl (by kernel_rfl) (by kernel_rfl) (by kernel_rfl) (fun _ _ _ h => h) (Or.inl ⟨by kernel_rfl, ?_⟩) hS ?_
      · intro w5 hSw
        clear hSw hS
        go_simp
      simp only [Act.put, List.setIfInBounds_toArray, List.set_cons_zero, List.set_cons_succ]
      refine wpAnyH_take (i := 2) (oi := { dst := some 15, op := Go.Op.fieldAddr 114 (Go.Operand.tmp 14) 4, type := 0, pos := "ref.go:182", after := #[{ on := 1, ground := Go.Ground.data }], guard := none }) (v := .pointer (some ⟨R.nb, 4, none⟩)) rfl (by kernel_rfl) (by kernel_rfl) (by kernel_rfl) (fun _ _ _ h => h) (Or.inl ⟨by kernel_rfl, ?_⟩) hS ?_
      · intro w5 hSw
        clear hSw hS
        go_simp
      simp only [Act.put, List.setIfInBounds_toArray, List.set_cons_zero, List.set_cons_succ]
      refine wpAnyH_take (i := 3) (oi := { dst := some 16, op := Go.Op.load 52 (Go.Operand.tmp 15), type := 52, pos := "ref.go:182", after := #[{ on := 2, ground := Go.Ground.data }], guard := none }) (v := .slice (some ⟨sb, 0, none⟩) R.ws.length sc) rfl (by kernel_rfl) (by kernel_rfl) (by kernel_rfl) (fun _ _ _ h => h) (Or.inl ⟨by kernel_rfl, ?_⟩) hS ?_
      · intro w5 hSw
        have h0 := HC4.out w5 (HR.out.2.trans hSw)
        clear hSw hS
        go_simp
      simp only [Act.put, List.setIfInBounds_toArray, List.set_cons_zero, List.set_cons_succ]
      refine wpAnyH_take (i := 4) (oi := { dst := some 17, op := Go.Op.move (Go.Operand.tmp 1), type := 51, pos := "ref.go:182", after := #[], guard := none }) (v := .slice (some ⟨lb, lo, none⟩) n lk) rfl (by kernel_rfl) (by kernel_rfl) (by kernel_rfl) (fun _ _ _ h => h) (Or.inl ⟨by kernel_rfl, ?_⟩) hS ?_
      · intro w5 hSw
        clear hSw hS
        go_simp
      simp only [Act.put, List.setIfInBounds_toArray, List.set_cons_zero, List.set_cons_succ]
      refine wpAnyH_take (i := 5) (oi := { dst := some 18, op := Go.Op.move (Go.Operand.tmp 5), type := 3, pos := "ref.go:182", after := #[], guard := none }) (v := .int .i64 (k : Int)) rfl (by kernel_rfl) (by kernel_rfl) (by kernel_rfl) (fun _ _ _ h => h) (Or.inl ⟨by kernel_rfl, ?_⟩) hS ?_
      · intro w5 hSw
        clear hSw hS
        go_simp
      simp only [Act.put, List.setIfInBounds_toArray, List.set_cons_zero, List.set_cons_succ]
      refine wpAnyH_take (i := 6) (oi := { dst := some 19, op := Go.Op.indexAddr 51 (Go.Operand.tmp 17) (Go.Operand.tmp 18), type := 0, pos := "ref.go:182", after := #[{ on := 4, ground := Go.Ground.data }, { on := 5, ground := Go.Ground.data }], guard := none }) (v := .pointer (some ⟨lb, lo + k, none⟩)) rfl (by kernel_rfl) (by kernel_rfl) (by kernel_rfl) (fun _ _ _ h => h) (Or.inl ⟨by kernel_rfl, ?_⟩) hS ?_
      · intro w5 hSw
        clear hSw hS
        go_simp
      simp only [Act.put, List.setIfInBounds_toArray, List.set_cons_zero, List.set_cons_succ]
      refine wpAnyH_take (i := 7) (oi := { dst := some 20, op := Go.Op.load 3 (Go.Operand.tmp 19), type := 3, pos := "ref.go:182", after := #[{ on := 6, ground := Go.Ground.data }], guard := none }) (v := .int .i64 (i : Int)) rfl (by kernel_rfl) (by kernel_rfl) (by kernel_rfl) (fun _ _ _ h => h) (Or.inl ⟨by kernel_rfl, ?_⟩) hS ?_
      · intro w5 hSw
        have h0 := HLI.out w5 (HR.out.2.trans hSw)
        clear hSw hS
        go_simp
      simp only [Act.put, List.setIfInBounds_toArray, List.set_cons_zero, List.set_cons_succ]
      refine wpAnyH_take (i := 8) (oi := { dst := some 21, op := Go.Op.indexAddr 52 (Go.Operand.tmp 16) (Go.Operand.tmp 20), type := 0, pos := "ref.go:182", after := #[{ on := 3, ground := Go.Ground.data }, { on := 7, ground := Go.Ground.data }], guard := none }) (v := .pointer (some ⟨sb, i, none⟩)) rfl (by kernel_rfl) (by kernel_rfl) (by kernel_rfl) (fun _ _ _ h => h) (Or.inl ⟨by kernel_rfl, ?_⟩) hS ?_
      · intro w5 hSw
        clear hSw hS
        go_simp
      simp only [Act.put, List.setIfInBounds_toArray, List.set_cons_zero, List.set_cons_succ]
      refine wpAnyH_take (i := 9) (oi := { dst := some 22, op := Go.Op.load 4 (Go.Operand.tmp 21), type := 4, pos := "ref.go:182", after := #[{ on := 8, ground := Go.Ground.data }], guard := none }) (v := .bool l.sh) rfl (by kernel_rfl) (by kernel_rfl) (by kernel_rfl) (fun _ _ _ h => h) (Or.inl ⟨by kernel_rfl, ?_⟩) hS ?_
      · intro w5 hSw
        have h0 := HSC.out w5 (HR.out.2.trans hSw)
        clear hSw hS
        go_simp
      simp only [Act.put, List.setIfInBounds_toArray, List.set_cons_zero, List.set_cons_succ]
      refine wpAnyH_take (i := 10) (oi := { dst := some 23, op := Go.Op.unOp Go.UnOp.not 4 (Go.Operand.tmp 22), type := 4, pos := "ref.go:182", after := #[{ on := 9, ground := Go.Ground.data }], guard := none }) (v := .bool (!l.sh)) rfl (by kernel_rfl) (by kernel_rfl) (by kernel_rfl) (fun _ _ _ h => h) (Or.inl ⟨by kernel_rfl, ?_⟩) hS ?_
      · intro w5 hSw
        clear hSw hS
        go_simp
      simp only [Act.put, List.setIfInBounds_toArray, List.set_cons_zero, List.set_cons_succ]
      refine wpAnyH_done (by kernel_rfl) ?_ _
      by_cases hsh : l.sh = true
      · have hE := endA_R HLL.out
        rw [hsh] at hE ⊢
        have HE := Hid.of (And.intro hE trivial)
        clear hE hsh
        have HU9 := Hid.of (HR.out.2.trans (Up.refl wr).drew)
        generalize wr.drew = w9 at *
        have c5 := HC5.out w9 HU9.out
        go_wp2
        go_loopw [6] (fun v6 wq => ∃ j : Nat, v6 = .int .i64 (j : Int) ∧ j ≤ m ∧ Hid ((R.pd.take j).any (fun p => p.i == i) = false ∧ Up w wq)) (fun v6 _ => m - (intOf v6).toNat)
        case atStart => exact ⟨0, rfl, by omega, Hid.of ⟨rfl, HU9.out⟩⟩
        case round =>
          clear c5
          obtain ⟨j, rfl, hj, hJ⟩ := hrel
          have c5 := HC5.out wr hJ.out.2
          by_cases hjm : j < m
          · have hjz : (j : Int) < (m : Int) := by omega
            have hjl : j < R.pd.length := by rw [HMM.out.1]; exact hjm
            obtain ⟨g, c9, e9, _, hr⟩ := HN.out.late_get hjl
            rw [HLV.out, HMM.out.1] at e9
            injection e9 with e9 e8 e7
            clear e8
            subst e9
            subst e7
            obtain ⟨p, hp⟩ : ∃ p, R.pd[j] = p := ⟨_, rfl⟩
            rw [hp] at hr
            have HPI := Hid.of (show ∀ w5, Up w w5 → w5.cell? ⟨g, j * 3 + 1, none⟩ = some (.int .i64 (p.i : Int)) from fun w5 hu => hu.cell (hr 1 _ rfl))
            have HTK := Hid.of (And.intro (show R.pd.take (j + 1) = R.pd.take j ++ [p] by rw [List.take_succ_eq_append_getElem hjl, hp]) trivial)
            have HMEM := Hid.of (show p ∈ R.pd by rw [← hp]; exact List.getElem_mem hjl)
            have hjw : IntKind.i64.wrap ((j : Int) + 1) = (j : Int) + 1 := by rw [IntKind.wrap_i64]; omega
            have hlcz : (m : Int) ≤ (lc : Int) := by omega
            have HJ := Hid.of hJ.out
            clear hr hp hjl hJ
            obtain ⟨pi, hpi⟩ : ∃ pi, p.i = pi := ⟨_, rfl⟩
            rw [hpi] at HPI
            go_wp2
            by_cases hpe : pi = i
            · have hpz : ((pi : Int) == (i : Int)) = true := by simp; omega
              have HF := Hid.of (And.intro (show q = false by
                rw [← HQ.out.1]
                refine all_false (k := k) (by rw [HNN.out.1]; exact hkn) ?_
                rw [HIK.out, HE.out.1]
                have : R.pd.any (fun p => p.i == i) = true := List.any_eq_true.2 ⟨p, HMEM.out, by rw [hpi, hpe]; simp⟩
                rw [this]
                rfl) trivial)
              clear hpe
              refine wp_region_held_drew (S := fun w2 => Up wr w2) (by kernel_rfl) ((Up.refl wr).drew) (fun hS => ?_)
              refine wpAnyH_take (i := 0) (oi := { dst := some 33, op := Go.Op.move (Go.Operand.tmp 0), type := 35, pos := "ref.go:186", after := #[], guard := none }) (v := .pointer (some ⟨R.nb, 0, none⟩)) rfl (by kernel_rfl) (by kernel_rfl) (by kernel_rfl) (fun _ _ _ h => h) (Or.inl ⟨by kernel_rfl, ?_⟩) hS ?_
              · intro w5 hSw
                clear hSw hS
                go_simp
              simp only [Act.put, List.setIfInBounds_toArray, List.set_cons_zero, List.set_cons_succ]
              refine wpAnyH_take (i := 1) (oi := { dst := some 34, op := Go.Op.nilCheck (Go.Operand.tmp 33), type := 0, pos := "ref.go:186", after := #[{ on := 0, ground := Go.Ground.data }], guard := none }) (v := .pointer (some ⟨R.nb, 0, none⟩)) rfl (by kernel_rfl) (by kernel_rfl) (by kernel_rfl) (fun _ _ _ h => h) (Or.inl ⟨by kernel_rfl, ?_⟩) hS ?_
              · intro w5 hSw
                clear hSw hS
                go_simp
              simp only [Act.put, List.setIfInBounds_toArray, List.set_cons_zero, List.set_cons_succ]
              refine wpAnyH_take (i := 2) (oi := { dst := some 35, op := Go.Op.fieldAddr 114 (Go.Operand.tmp 34) 5, type := 0, pos := "ref.go:186", after := #[{ on := 1, ground := Go.Ground.data }], guard := none }) (v := .pointer (some ⟨R.nb, 5, none⟩)) rfl (by kernel_rfl) (by kernel_rfl) (by kernel_rfl) (fun _ _ _ h => h) (Or.inl ⟨by kernel_rfl, ?_⟩) hS ?_
              · intro w5 hSw
                clear hSw hS
                go_simp
              simp only [Act.put, List.setIfInBounds_toArray, List.set_cons_zero, List.set_cons_succ]
              refine wpAnyH_take (i := 3) (oi := { dst := some 36, op := Go.Op.load 112 (Go.Operand.tmp 35), type := 112, pos := "ref.go:186", after := #[{ on := 2, ground := Go.Ground.data }], guard := none }) (v := .slice (some ⟨g, 0, none⟩) m lc) rfl (by kernel_rfl) (by kernel_rfl) (by kernel_rfl) (fun _ _ _ h => h) (Or.inl ⟨by kernel_rfl, ?_⟩) hS ?_
              · intro w5 hSw
                have h0 := HC5.out w5 (HJ.out.2.trans hSw)
                clear hSw hS
                go_simp
              simp only [Act.put, List.setIfInBounds_toArray, List.set_cons_zero, List.set_cons_succ]
              refine wpAnyH_take (i := 4) (oi := { dst := some 37, op := Go.Op.move (Go.Operand.tmp 6), type := 3, pos := "ref.go:186", after := #[], guard := none }) (v := .int .i64 (j : Int)) rfl (by kernel_rfl) (by kernel_rfl) (by kernel_rfl) (fun _ _ _ h => h) (Or.inl ⟨by kernel_rfl, ?_⟩) hS ?_
              · intro w5 hSw
                clear hSw hS
                go_simp
              simp only [Act.put, List.setIfInBounds_toArray, List.set_cons_zero, List.set_cons_succ]
              refine wpAnyH_take (i := 5) (oi := { dst := some 38, op := Go.Op.indexAddr 112 (Go.Operand.tmp 36) (Go.Operand.tmp 37), type := 0, pos := "ref.go:186", after := #[{ on := 3, ground := Go.Ground.data }, { on := 4, ground := Go.Ground.data }], guard := none }) (v := .pointer (some ⟨g, j * 3, none⟩)) rfl (by kernel_rfl) (by kernel_rfl) (by kernel_rfl) (fun _ _ _ h => h) (Or.inl ⟨by kernel_rfl, ?_⟩) hS ?_
              · intro w5 hSw
                clear hSw hS
                go_simp
              simp only [Act.put, List.setIfInBounds_toArray, List.set_cons_zero, List.set_cons_succ]
              refine wpAnyH_take (i := 6) (oi := { dst := some 39, op := Go.Op.fieldAddr 148 (Go.Operand.tmp 38) 1, type := 0, pos := "ref.go:186", after := #[{ on := 5, ground := Go.Ground.data }], guard := none }) (v := .pointer (some ⟨g, j * 3 + 1, none⟩)) rfl (by kernel_rfl) (by kernel_rfl) (by kernel_rfl) (fun _ _ _ h => h) (Or.inl ⟨by kernel_rfl, ?_⟩) hS ?_
              · intro w5 hSw
                clear hSw hS
                go_simp
              simp only [Act.put, List.setIfInBounds_toArray, List.set_cons_zero, List.set_cons_succ]
              refine wpAnyH_take (i := 7) (oi := { dst := some 40, op := Go.Op.load 3 (Go.Operand.tmp 39), type := 3, pos := "ref.go:186", after := #[{ on := 6, ground := Go.Ground.data }], guard := none }) (v := .int .i64 (pi : Int)) rfl (by kernel_rfl) (by kernel_rfl) (by kernel_rfl) (fun _ _ _ h => h) (Or.inl ⟨by kernel_rfl, ?_⟩) hS ?_
              · intro w5 hSw
                have h0 := HPI.out w5 (HJ.out.2.trans hSw)
                clear hSw hS
                go_simp
              simp only [Act.put, List.setIfInBounds_toArray, List.set_cons_zero, List.set_cons_succ]
              refine wpAnyH_take (i := 8) (oi := { dst := some 41, op := Go.Op.move (Go.Operand.tmp 1), type := 51, pos := "ref.go:186", after := #[], guard := none }) (v := .slice (some ⟨lb, lo, none⟩) n lk) rfl (by kernel_rfl) (by kernel_rfl) (by kernel_rfl) (fun _ _ _ h => h) (Or.inl ⟨by kernel_rfl, ?_⟩) hS ?_
              · intro w5 hSw
                clear hSw hS
                go_simp
              simp only [Act.put, List.setIfInBounds_toArray, List.set_cons_zero, List.set_cons_succ]
              refine wpAnyH_take (i := 9) (oi := { dst := some 42, op := Go.Op.move (Go.Operand.tmp 5), type := 3, pos := "ref.go:186", after := #[], guard := none }) (v := .int .i64 (k : Int)) rfl (by kernel_rfl) (by kernel_rfl) (by kernel_rfl) (fun _ _ _ h => h) (Or.inl ⟨by kernel_rfl, ?_⟩) hS ?_
              · intro w5 hSw
                clear hSw hS
                go_simp
              simp only [Act.put, List.setIfInBounds_toArray, List.set_cons_zero, List.set_cons_succ]
              refine wpAnyH_take (i := 10) (oi := { dst := some 43, op := Go.Op.indexAddr 51 (Go.Operand.tmp 41) (Go.Operand.tmp 42), type := 0, pos := "ref.go:186", after := #[{ on := 8, ground := Go.Ground.data }, { on := 9, ground := Go.Ground.data }], guard := none }) (v := .pointer (some ⟨lb, lo + k, none⟩)) rfl (by kernel_rfl) (by kernel_rfl) (by kernel_rfl) (fun _ _ _ h => h) (Or.inl ⟨by kernel_rfl, ?_⟩) hS ?_
              · intro w5 hSw
                clear hSw hS
                go_simp
              simp only [Act.put, List.setIfInBounds_toArray, List.set_cons_zero, List.set_cons_succ]
              refine wpAnyH_take (i := 11) (oi := { dst := some 44, op := Go.Op.load 3 (Go.Operand.tmp 43), type := 3, pos := "ref.go:186", after := #[{ on := 10, ground := Go.Ground.data }], guard := none }) (v := .int .i64 (i : Int)) rfl (by kernel_rfl) (by kernel_rfl) (by kernel_rfl) (fun _ _ _ h => h) (Or.inl ⟨by kernel_rfl, ?_⟩) hS ?_
              · intro w5 hSw
                have h0 := HLI.out w5 (HJ.out.2.trans hSw)
                clear hSw hS
                go_simp
              simp only [Act.put, List.setIfInBounds_toArray, List.set_cons_zero, List.set_cons_succ]
              refine wpAnyH_take (i := 12) (oi := { dst := some 45, op := Go.Op.binOp Go.BinOp.eql 3 (Go.Operand.tmp 40) (Go.Operand.tmp 44) 3, type := 4, pos := "ref.go:186", after := #[{ on := 7, ground := Go.Ground.data }, { on := 11, ground := Go.Ground.data }], guard := none }) (v := .bool true) rfl (by kernel_rfl) (by kernel_rfl) (by kernel_rfl) (fun _ _ _ h => h) (Or.inl ⟨by kernel_rfl, ?_⟩) hS ?_
              · intro w5 hSw
                clear hSw hS
                go_simp
              simp only [Act.put, List.setIfInBounds_toArray, List.set_cons_zero, List.set_cons_succ]
              refine wpAnyH_done (by kernel_rfl) ?_ _
              go_wp2
              go_ret
              rw [HF.out.1]
              exact ⟨rfl, HJ.out.2.trans (Up.refl wr).drew⟩
            · have hpz : ((pi : Int) == (i : Int)) = false := by simp; omega
              have HJ2 := Hid.of (show (R.pd.take (j + 1)).any (fun p => p.i == i) = false ∧ Up w wr.drew from ⟨by
                rw [HTK.out.1, List.any_append, HJ.out.1]
                simp [hpi, hpe], HJ.out.2.trans (Up.refl wr).drew⟩)
              clear hpe
              refine wp_region_held_drew (S := fun w2 => Up wr w2) (by kernel_rfl) ((Up.refl wr).drew) (fun hS => ?_)
              refine wpAnyH_take (i := 0) (oi := { dst := some 33, op := Go.Op.move (Go.Operand.tmp 0), type := 35, pos := "ref.go:186", after := #[], guard := none }) (v := .pointer (some ⟨R.nb, 0, none⟩)) rfl (by kernel_rfl) (by kernel_rfl) (by kernel_rfl) (fun _ _ _ h => h) (Or.inl ⟨by kernel_rfl, ?_⟩) hS ?_
              · intro w5 hSw
                clear hSw hS
                go_simp
              simp only [Act.put, List.setIfInBounds_toArray, List.set_cons_zero, List.set_cons_succ]
              refine wpAnyH_take (i := 1) (oi := { dst := some 34, op := Go.Op.nilCheck (Go.Operand.tmp 33), type := 0, pos := "ref.go:186", after := #[{ on := 0, ground := Go.Ground.data }], guard := none }) (v := .pointer (some ⟨R.nb, 0, none⟩)) rfl (by kernel_rfl) (by kernel_rfl) (by kernel_rfl) (fun _ _ _ h => h) (Or.inl ⟨by kernel_rfl, ?_⟩) hS ?_
              · intro w5 hSw
                clear hSw hS
                go_simp
              simp only [Act.put, List.setIfInBounds_toArray, List.set_cons_zero, List.set_cons_succ]
              refine wpAnyH_take (i := 2) (oi := { dst := some 35, op := Go.Op.fieldAddr 114 (Go.Operand.tmp 34) 5, type := 0, pos := "ref.go:186", after := #[{ on := 1, ground := Go.Ground.data }], guard := none }) (v := .pointer (some ⟨R.nb, 5, none⟩)) rfl (by kernel_rfl) (by kernel_rfl) (by kernel_rfl) (fun _ _ _ h => h) (Or.inl ⟨by kernel_rfl, ?_⟩) hS ?_
              · intro w5 hSw
                clear hSw hS
                go_simp
              simp only [Act.put, List.setIfInBounds_toArray, List.set_cons_zero, List.set_cons_succ]
              refine wpAnyH_take (i := 3) (oi := { dst := some 36, op := Go.Op.load 112 (Go.Operand.tmp 35), type := 112, pos := "ref.go:186", after := #[{ on := 2, ground := Go.Ground.data }], guard := none }) (v := .slice (some ⟨g, 0, none⟩) m lc) rfl (by kernel_rfl) (by kernel_rfl) (by kernel_rfl) (fun _ _ _ h => h) (Or.inl ⟨by kernel_rfl, ?_⟩) hS ?_
              · intro w5 hSw
                have h0 := HC5.out w5 (HJ.out.2.trans hSw)
                clear hSw hS
                go_simp
              simp only [Act.put, List.setIfInBounds_toArray, List.set_cons_zero, List.set_cons_succ]
              refine wpAnyH_take (i := 4) (oi := { dst := some 37, op := Go.Op.move (Go.Operand.tmp 6), type := 3, pos := "ref.go:186", after := #[], guard := none }) (v := .int .i64 (j : Int)) rfl (by kernel_rfl) (by kernel_rfl) (by kernel_rfl) (fun _ _ _ h => h) (Or.inl ⟨by kernel_rfl, ?_⟩) hS ?_
              · intro w5 hSw
                clear hSw hS
                go_simp
              simp only [Act.put, List.setIfInBounds_toArray, List.set_cons_zero, List.set_cons_succ]
              refine wpAnyH_take (i := 5) (oi := { dst := some 38, op := Go.Op.indexAddr 112 (Go.Operand.tmp 36) (Go.Operand.tmp 37), type := 0, pos := "ref.go:186", after := #[{ on := 3, ground := Go.Ground.data }, { on := 4, ground := Go.Ground.data }], guard := none }) (v := .pointer (some ⟨g, j * 3, none⟩)) rfl (by kernel_rfl) (by kernel_rfl) (by kernel_rfl) (fun _ _ _ h => h) (Or.inl ⟨by kernel_rfl, ?_⟩) hS ?_
              · intro w5 hSw
                clear hSw hS
                go_simp
              simp only [Act.put, List.setIfInBounds_toArray, List.set_cons_zero, List.set_cons_succ]
              refine wpAnyH_take (i := 6) (oi := { dst := some 39, op := Go.Op.fieldAddr 148 (Go.Operand.tmp 38) 1, type := 0, pos := "ref.go:186", after := #[{ on := 5, ground := Go.Ground.data }], guard := none }) (v := .pointer (some ⟨g, j * 3 + 1, none⟩)) rfl (by kernel_rfl) (by kernel_rfl) (by kernel_rfl) (fun _ _ _ h => h) (Or.inl ⟨by kernel_rfl, ?_⟩) hS ?_
              · intro w5 hSw
                clear hSw hS
                go_simp
              simp only [Act.put, List.setIfInBounds_toArray, List.set_cons_zero, List.set_cons_succ]
              refine wpAnyH_take (i := 7) (oi := { dst := some 40, op := Go.Op.load 3 (Go.Operand.tmp 39), type := 3, pos := "ref.go:186", after := #[{ on := 6, ground := Go.Ground.data }], guard := none }) (v := .int .i64 (pi : Int)) rfl (by kernel_rfl) (by kernel_rfl) (by kernel_rfl) (fun _ _ _ h => h) (Or.inl ⟨by kernel_rfl, ?_⟩) hS ?_
              · intro w5 hSw
                have h0 := HPI.out w5 (HJ.out.2.trans hSw)
                clear hSw hS
                go_simp
              simp only [Act.put, List.setIfInBounds_toArray, List.set_cons_zero, List.set_cons_succ]
              refine wpAnyH_take (i := 8) (oi := { dst := some 41, op := Go.Op.move (Go.Operand.tmp 1), type := 51, pos := "ref.go:186", after := #[], guard := none }) (v := .slice (some ⟨lb, lo, none⟩) n lk) rfl (by kernel_rfl) (by kernel_rfl) (by kernel_rfl) (fun _ _ _ h => h) (Or.inl ⟨by kernel_rfl, ?_⟩) hS ?_
              · intro w5 hSw
                clear hSw hS
                go_simp
              simp only [Act.put, List.setIfInBounds_toArray, List.set_cons_zero, List.set_cons_succ]
              refine wpAnyH_take (i := 9) (oi := { dst := some 42, op := Go.Op.move (Go.Operand.tmp 5), type := 3, pos := "ref.go:186", after := #[], guard := none }) (v := .int .i64 (k : Int)) rfl (by kernel_rfl) (by kernel_rfl) (by kernel_rfl) (fun _ _ _ h => h) (Or.inl ⟨by kernel_rfl, ?_⟩) hS ?_
              · intro w5 hSw
                clear hSw hS
                go_simp
              simp only [Act.put, List.setIfInBounds_toArray, List.set_cons_zero, List.set_cons_succ]
              refine wpAnyH_take (i := 10) (oi := { dst := some 43, op := Go.Op.indexAddr 51 (Go.Operand.tmp 41) (Go.Operand.tmp 42), type := 0, pos := "ref.go:186", after := #[{ on := 8, ground := Go.Ground.data }, { on := 9, ground := Go.Ground.data }], guard := none }) (v := .pointer (some ⟨lb, lo + k, none⟩)) rfl (by kernel_rfl) (by kernel_rfl) (by kernel_rfl) (fun _ _ _ h => h) (Or.inl ⟨by kernel_rfl, ?_⟩) hS ?_
              · intro w5 hSw
                clear hSw hS
                go_simp
              simp only [Act.put, List.setIfInBounds_toArray, List.set_cons_zero, List.set_cons_succ]
              refine wpAnyH_take (i := 11) (oi := { dst := some 44, op := Go.Op.load 3 (Go.Operand.tmp 43), type := 3, pos := "ref.go:186", after := #[{ on := 10, ground := Go.Ground.data }], guard := none }) (v := .int .i64 (i : Int)) rfl (by kernel_rfl) (by kernel_rfl) (by kernel_rfl) (fun _ _ _ h => h) (Or.inl ⟨by kernel_rfl, ?_⟩) hS ?_
              · intro w5 hSw
                have h0 := HLI.out w5 (HJ.out.2.trans hSw)
                clear hSw hS
                go_simp
              simp only [Act.put, List.setIfInBounds_toArray, List.set_cons_zero, List.set_cons_succ]
              refine wpAnyH_take (i := 12) (oi := { dst := some 45, op := Go.Op.binOp Go.BinOp.eql 3 (Go.Operand.tmp 40) (Go.Operand.tmp 44) 3, type := 4, pos := "ref.go:186", after := #[{ on := 7, ground := Go.Ground.data }, { on := 11, ground := Go.Ground.data }], guard := none }) (v := .bool false) rfl (by kernel_rfl) (by kernel_rfl) (by kernel_rfl) (fun _ _ _ h => h) (Or.inl ⟨by kernel_rfl, ?_⟩) hS ?_
              · intro w5 hSw
                clear hSw hS
                go_simp
              simp only [Act.put, List.setIfInBounds_toArray, List.set_cons_zero, List.set_cons_succ]
              refine wpAnyH_done (by kernel_rfl) ?_ _
              go_wp2
              go_roundw
              case rel => exact ⟨j + 1, by simp, by omega, HJ2⟩
              case measure => simp [intOf]; omega
          · have hjz : ¬ (j : Int) < (m : Int) := by omega
            obtain rfl : j = m := by omega
            have HK2 := Hid.of (show (is.take (k + 1)).all (endA (absR R)) = true ∧ Up w wr from ⟨all_take (by rw [HNN.out.1]; exact hkn) HR.out.1 (by
              rw [HIK.out, HE.out.1]
              have := hJ.out.1
              rw [List.take_of_length_le (by rw [HMM.out.1]; exact Nat.le_refl _)] at this
              rw [this]
              rfl), hJ.out.2⟩)
            clear hJ
            go_wp2
            go_roundw
            case rel => exact ⟨k + 1, by simp, by omega, HK2⟩
            case measure => simp [intOf]; omega
      · have hsh : l.sh = false := by simpa using hsh
        have hE := endA_R HLL.out
        rw [hsh] at hE ⊢
        have HF := Hid.of (And.intro (show q = false by
          rw [← HQ.out.1]
          refine all_false (k := k) (by rw [HNN.out.1]; exact hkn) ?_
          rw [HIK.out, hE]
          rfl) trivial)
        clear hE hsh
        go_wp2
        go_ret
        rw [HF.out.1]
        exact ⟨rfl, HR.out.2.trans (Up.refl wr).drew⟩
    · have hkz : ¬ (k : Int) < (n : Int) := by omega
      obtain rfl : k = n := by omega
      have HT := Hid.of (And.intro (show q = true by
        rw [← HQ.out.1]
        have := hR.out.1
        rw [List.take_of_length_le (by rw [HNN.out.1]; exact Nat.le_refl _)] at this
        exact this) trivial)
      go_wp2
      go_ret
      rw [HT.out.1]
      exact ⟨rfl, hR.out.2⟩
end Go.Proofs.Ytdlfkdehfenemaa
namespace Go.Proofs.Ytdlfkdehfenemaa
open Go.RowKit Go.Conc TextNum
theorem OwnZ.front {w : World} {v : Value} {x : Value} {xs : List Value} (h : OwnZ w v (x :: xs)) : ∃ g off off2 c, v = .slice (some ⟨g, off, none⟩) (xs.length + 1) c ∧ xs.length + 1 ≤ c ∧ w.cell? ⟨g, off, none⟩ = some x ∧ OwnZ w (.slice (some ⟨g, off2, none⟩) xs.length (c - 1)) xs ∧ (if c = 1 then off else off + 1) = off2 := by
  rcases id h with ⟨_, h0⟩ | ⟨g, off, cap, cur, rfl, hg, hl, hcm, hs, hc⟩
  · cases h0
  · have hd := h.drop
    refine ⟨g, off, _, cap, rfl, hl, ?_, ?_, rfl⟩
    · rw [cell_of_row w g off cur _ (0, 0) hg]
      have := hc 0 (by simp)
      simpa using this
    · unfold sliced at hd
      simp only [List.length_cons, Nat.add_sub_cancel, Option.map_some, Nat.mul_one, add_pl] at hd
      by_cases h1 : cap = 1
      · rw [if_pos h1] at hd ⊢
        exact hd
      · rw [if_neg h1] at hd ⊢
        exact hd
theorem ROk.ws_cell {w : World} {R : RS} (h : ROk w R) {i : Nat} {l : RC} (hl : R.ws[i]? = some l) : ∃ wb wc, R.wv = .slice (some ⟨wb, 0, none⟩) R.ws.length wc ∧ R.ws.length ≤ wc ∧ w.cell? ⟨wb, i, none⟩ = some l.v := by
  have hi := (List.getElem?_eq_some_iff.1 hl).1
  obtain ⟨wa, wc, hwv⟩ := row_len h.wo
  have hwo := h.wo
  rw [hwv] at hwo
  obtain ⟨wb, rfl, hwc, hx, hcl⟩ := own_get hwo hi
  have hgl : (wvs R.ws)[i] = l.v := by
    have := wvs_get hl
    rw [List.getElem?_eq_getElem hx] at this
    exact Option.some.inj this
  rw [hgl] at hcl
  exact ⟨wb, wc, hwv, hwc, hcl⟩
theorem find_none_take {p : Nat → Bool} {l : List Nat} {k : Nat} (hk : k < l.length) (h : (l.take k).all (fun x => !p x) = true) (hp : p l[k] = false) : (l.take (k + 1)).all (fun x => !p x) = true := all_take hk h (by simp [hp])
/-- the first that waits is taken -/
theorem ROk.pop {w w' : World} {R : RS} {i : Nat} {m : Msg} {r : List Msg} {v v' : Value} {sh : Bool} (h : ROk w R) (hl : R.ws[i]? = some ⟨v, m :: r, sh⟩) {wb c : Nat} (hwv : R.wv = .slice (some ⟨wb, 0, none⟩) R.ws.length c) (hb : v'.ownBlock = v.ownBlock) (hz : OwnZ w v' (r.map (·.v))) (u : Up w w') :
    RStp 0 w (w'.setCell ⟨wb, i, none⟩ v') R (wWs R i ⟨v', r, sh⟩) (popA (absR R) i) := by
  have h' := h.up u
  have hwo := h'.wo
  rw [hwv] at hwo
  have hst := World.ownsRow.stored hwo i v'
  have hfr : Frs w' v v' := fun g hg => .inl (by rw [← hb]; exact hg)
  have HF : Fr (fun k => R.wv.ownBlock = some k ∨ v.ownBlock = some k) w' (w'.setCell ⟨wb, i, none⟩ v') := (Fr.refl _ w').by hst.2 (fun g hg => .inl (.inl (by rw [hwv]; exact hg)))
  have hz' : OwnZ (w'.setCell ⟨wb, i, none⟩ v') v' (r.map (·.v)) := ((Fr.refl (fun k => k = wb) w').by hst.2 (fun g hg => .inl (Option.some.inj hg).symm)).ownz ((fr_of_up (fun _ => False) u).ownz hz (fun _ _ h => h)) (fun g hg hk => by
    have t := ((fr_of_up (fun _ => False) u).ownz hz (fun _ _ h => h)).tag hg
    rw [hk, row_tag hwo rfl] at t
    cases t)
  refine RStp.base ⟨h'.lane hl rfl ?_ hz' HF hfr (fun x hx => ?_), ?_, fr_lane hl HF, fun x hx => rown_set (w := w') (l' := ⟨v', r, sh⟩) hl hfr hx, fun x hx => .inr (Nat.zero_le _), rfl, rfl, by simp⟩ u
  · rw [wvs_set, hwv]
    exact hst.1
  · have hx' : Ow w' 0 x.v x.d := h'.ms x (List.mem_append.2 (.inl (List.mem_flatMap.2 ⟨_, get_mem hl, List.mem_cons_of_mem _ hx⟩)))
    refine HF.own hx' (fun g hg hk => ?_)
    have t := row_tag hx' hg
    rcases hk with hk | hk
    · rw [row_tag h'.wo hk] at t; cases t
    · rw [(h'.rw _ (get_mem hl)).tag hk] at t; cases t
  · unfold absR popA
    dsimp only
    rw [map_set_modify (fun l : RC => (l.ms.map (·.d), l.sh)) (fun x => (x.1.tail, x.2)) _ _ _ _ hl (by simp)]
/-- what take answers -/
def TKR (w w' : World) (R : RS) (is : List Nat) (z : Int) (mv : Value) : Prop :=
  (z = -1 ∧ mv = nilS ∧ is.find? (hasA (absR R)) = none ∧ Up w w') ∨ ∃ i : Nat, z = (i : Int) ∧ is.find? (hasA (absR R)) = some i ∧ ∃ R', RStp 0 w w' R R' (popA (absR R) i) ∧ Ow w' 0 mv (firstA (absR R) i) ∧ R'.pd.length ≤ R.pd.length ∧ R'.st = R.st ∧ (∀ m ∈ rmsgs R', m ∈ rmsgs R) ∧ R'.fv = R.fv
set_option maxRecDepth 100000 in
set_option maxHeartbeats 2000000 in
theorem Rtake_walk (w : World) (R : RS) (v : Value) (is : List Nat) (h : ROk w R) (hL : LnR w v is) (hv : ∀ g, v.ownBlock = some g → ¬ rown R g) (hlt : ∀ i ∈ is, i < R.ws.length) (hn : is.length ≤ 64) :
    Calls Try.prog 80 #[.pointer (some ⟨R.nb, 0, none⟩), v] w fun e w' => ∃ z mv, e = .returned (.tuple #[.int .i64 z, mv]) ∧ TKR w w' R is z mv := by
  obtain ⟨lb, lo, lk, rfl, hlk, hcl⟩ := id hL
  obtain ⟨wa, wc, hwv⟩ := row_len h.wo
  have HC3 := Hid.of (show ∀ w5, Up w w5 → w5.cell? ⟨R.nb, 3, none⟩ = some (.slice wa R.ws.length wc) from fun w5 hu => by
    have := hu.cell (h.net.cell (i := 3) rfl)
    rw [hwv] at this
    exact this)
  have HWV := Hid.of hwv
  have HV := Hid.of hv
  have HN := Hid.of h
  have HCL := Hid.of hcl
  have HLT := Hid.of hlt
  obtain ⟨n, hne⟩ : ∃ n, is.length = n := ⟨_, rfl⟩
  have HNN := Hid.of (And.intro hne trivial)
  rw [hne] at hlk hn ⊢
  clear h hcl hlt hwv hne hL hv
  go_enter Try.func80, Try.ntmps80
  go_wp2
  go_loopw [6, 7] (fun v6 _ wr => ∃ k : Nat, v6 = .int .i64 (k : Int) ∧ k ≤ n ∧ Hid ((is.take k).all (fun x => !hasA (absR R) x) = true ∧ Up w wr)) (fun v6 _ _ => n - (intOf v6).toNat)
  case atStart => exact ⟨0, rfl, by omega, Hid.of ⟨rfl, Up.refl _⟩⟩
  case round =>
    obtain ⟨k, rfl, hk, hR⟩ := hrel
    by_cases hkn : k < n
    · have hkz : (k : Int) < (n : Int) := by omega
      have hkl : k < is.length := by rw [HNN.out.1]; exact hkn
      obtain ⟨i, hi⟩ : ∃ i, is[k] = i := ⟨_, rfl⟩
      have hiw : i < R.ws.length := by rw [← hi]; exact HLT.out _ (List.getElem_mem hkl)
      obtain ⟨l, hl⟩ : ∃ l, R.ws[i]? = some l := ⟨_, List.getElem?_eq_getElem hiw⟩
      obtain ⟨wb, wc', e9, hwc, hcs⟩ := HN.out.ws_cell hl
      rw [HWV.out] at e9
      injection e9 with e9 e8 e7
      clear e8
      subst e9
      subst e7
      have hz := HN.out.rw l (get_mem hl)
      have hH := hasA_R hl
      have HIK := Hid.of hi
      have HLI := Hid.of (show w.cell? ⟨lb, lo + k, none⟩ = some (.int .i64 (i : Int)) from HCL.out k i (by rw [List.getElem?_eq_getElem hkl, hi]))
      have hkw : IntKind.i64.wrap ((k : Int) + 1) = (k : Int) + 1 := by rw [IntKind.wrap_i64]; omega
      have hlkz : (n : Int) ≤ (lk : Int) := by omega
      have hiz : (i : Int) < (R.ws.length : Int) := by omega
      have hwcz : (R.ws.length : Int) ≤ (wc : Int) := by omega
      have hne1 : lb ≠ wb := fun e => HV.out lb rfl (.inr (.inl (by rw [HWV.out, e]; rfl)))
      obtain ⟨lv, ms, sh⟩ := l
      have HLL := Hid.of hl
      have HNE := Hid.of hne1
      have HR := Hid.of hR.out
      dsimp only at hz hcs hH
      have HH := Hid.of hH
      clear hR hi hl hiw hne1 hH
      cases ms with
      | nil =>
        obtain ⟨ya, yc, hy⟩ := hz.shape
        simp only [List.map_nil, List.length_nil] at hy
        subst hy
        have HSC := Hid.of (show ∀ w5, Up w w5 → w5.cell? ⟨wb, i, none⟩ = some (.slice ya 0 yc) from fun w5 hu => hu.cell hcs)
        have HR2 := Hid.of (show (is.take (k + 1)).all (fun x => !hasA (absR R) x) = true ∧ Up w wr.drew from ⟨find_none_take hkl HR.out.1 (by rw [HIK.out, HH.out]; rfl), HR.out.2.trans (Up.refl wr).drew⟩)
        clear hz hcs
        go_wp2
        refine wp_region_held_drew (S := fun w2 => Up wr w2) (by kernel_rfl) ((Up.refl wr).drew) (fun hS => ?_)
        refine wpAnyH_take (i := 0) (oi := { dst := some 14, op := Go.Op.move (Go.Operand.tmp 0), type := 35, pos := "ref.go:197", after := #[], guard := none }) (v := .pointer (some ⟨R.nb, 0, none⟩)) rfl (by kernel_rfl) (by kernel_rfl) (by kernel_rfl) (fun _ _ _ h => h) (Or.inl ⟨by kernel_rfl, ?_⟩) hS ?_
        · intro w5 hSw
          clear hSw hS
          go_simp
        simp only [Act.put, List.setIfInBounds_toArray, List.set_cons_zero, List.set_cons_succ]
        refine wpAnyH_take (i := 1) (oi := { dst := some 15, op := Go.Op.nilCheck (Go.Operand.tmp 14), type := 0, pos := "ref.go:197", after := #[{ on := 0, ground := Go.Ground.data }], guard := none }) (v := .pointer (some ⟨R.nb, 0, none⟩)) rfl (by kernel_rfl) (by kernel_rfl) (by kernel_rfl) (fun _ _ _ h => h) (Or.inl ⟨by kernel_rfl, ?_⟩) hS ?_
        · intro w5 hSw
          clear hSw hS
          go_simp
        simp only [Act.put, List.setIfInBounds_toArray, List.set_cons_zero, List.set_cons_succ]
        refine wpAnyH_take (i := 2) (oi := { dst := some 16, op := Go.Op.fieldAddr 114 (Go.Operand.tmp 15) 3, type := 0, pos := "ref.go:197", after := #[{ on := 1, ground := Go.Ground.data }], guard := none }) (v := .pointer (some ⟨R.nb, 3, none⟩)) rfl (by kernel_rfl) (by kernel_rfl) (by kernel_rfl) (fun _ _ _ h => h) (Or.inl ⟨by kernel_rfl, ?_⟩) hS ?_
        · intro w5 hSw
          clear hSw hS
          go_simp
        simp only [Act.put, List.setIfInBounds_toArray, List.set_cons_zero, List.set_cons_succ]
        refine wpAnyH_take (i := 3) (oi := { dst := some 17, op := Go.Op.load 111 (Go.Operand.tmp 16), type := 111, pos := "ref.go:197", after := #[{ on := 2, ground := Go.Ground.data }], guard := none }) (v := .slice (some ⟨wb, 0, none⟩) R.ws.length wc) rfl (by kernel_rfl) (by kernel_rfl) (by kernel_rfl) (fun _ _ _ h => h) (Or.inl ⟨by kernel_rfl, ?_⟩) hS ?_
        · intro w5 hSw
          have h0 := HC3.out w5 (HR.out.2.trans hSw)
          clear hSw hS
          go_simp
        simp only [Act.put, List.setIfInBounds_toArray, List.set_cons_zero, List.set_cons_succ]
        refine wpAnyH_take (i := 4) (oi := { dst := some 18, op := Go.Op.move (Go.Operand.tmp 1), type := 51, pos := "ref.go:197", after := #[], guard := none }) (v := .slice (some ⟨lb, lo, none⟩) n lk) rfl (by kernel_rfl) (by kernel_rfl) (by kernel_rfl) (fun _ _ _ h => h) (Or.inl ⟨by kernel_rfl, ?_⟩) hS ?_
        · intro w5 hSw
          clear hSw hS
          go_simp
        simp only [Act.put, List.setIfInBounds_toArray, List.set_cons_zero, List.set_cons_succ]
        refine wpAnyH_take (i := 5) (oi := { dst := some 19, op := Go.Op.move (Go.Operand.tmp 6), type := 3, pos := "ref.go:197", after := #[], guard := none }) (v := .int .i64 (k : Int)) rfl (by kernel_rfl) (by kernel_rfl) (by kernel_rfl) (fun _ _ _ h => h) (Or.inl ⟨by kernel_rfl, ?_⟩) hS ?_
        · intro w5 hSw
          clear hSw hS
          go_simp
        simp only [Act.put, List.setIfInBounds_toArray, List.set_cons_zero, List.set_cons_succ]
        refine wpAnyH_take (i := 6) (oi := { dst := some 20, op := Go.Op.indexAddr 51 (Go.Operand.tmp 18) (Go.Operand.tmp 19), type := 0, pos := "ref.go:197", after := #[{ on := 4, ground := Go.Ground.data }, { on := 5, ground := Go.Ground.data }], guard := none }) (v := .pointer (some ⟨lb, lo + k, none⟩)) rfl (by kernel_rfl) (by kernel_rfl) (by kernel_rfl) (fun _ _ _ h => h) (Or.inl ⟨by kernel_rfl, ?_⟩) hS ?_
        · intro w5 hSw
          clear hSw hS
          go_simp
        simp only [Act.put, List.setIfInBounds_toArray, List.set_cons_zero, List.set_cons_succ]
        refine wpAnyH_take (i := 7) (oi := { dst := some 21, op := Go.Op.load 3 (Go.Operand.tmp 20), type := 3, pos := "ref.go:197", after := #[{ on := 6, ground := Go.Ground.data }], guard := none }) (v := .int .i64 (i : Int)) rfl (by kernel_rfl) (by kernel_rfl) (by kernel_rfl) (fun _ _ _ h => h) (Or.inl ⟨by kernel_rfl, ?_⟩) hS ?_
        · intro w5 hSw
          have h0 := (HR.out.2.trans hSw).cell HLI.out
          clear hSw hS
          go_simp
        simp only [Act.put, List.setIfInBounds_toArray, List.set_cons_zero, List.set_cons_succ]
        refine wpAnyH_take (i := 8) (oi := { dst := some 22, op := Go.Op.indexAddr 111 (Go.Operand.tmp 17) (Go.Operand.tmp 21), type := 0, pos := "ref.go:197", after := #[{ on := 3, ground := Go.Ground.data }, { on := 7, ground := Go.Ground.data }], guard := none }) (v := .pointer (some ⟨wb, i, none⟩)) rfl (by kernel_rfl) (by kernel_rfl) (by kernel_rfl) (fun _ _ _ h => h) (Or.inl ⟨by kernel_rfl, ?_⟩) hS ?_
        · intro w5 hSw
          clear hSw hS
          go_simp
        simp only [Act.put, List.setIfInBounds_toArray, List.set_cons_zero, List.set_cons_succ]
        refine wpAnyH_take (i := 9) (oi := { dst := some 23, op := Go.Op.load 145 (Go.Operand.tmp 22), type := 145, pos := "ref.go:197", after := #[{ on := 8, ground := Go.Ground.data }], guard := none }) (v := .slice ya 0 yc) rfl (by kernel_rfl) (by kernel_rfl) (by kernel_rfl) (fun _ _ _ h => h) (Or.inl ⟨by kernel_rfl, ?_⟩) hS ?_
        · intro w5 hSw
          have h0 := HSC.out w5 (HR.out.2.trans hSw)
          clear hSw hS
          go_simp
        simp only [Act.put, List.setIfInBounds_toArray, List.set_cons_zero, List.set_cons_succ]
        refine wpAnyH_ready (rs := [10]) (by kernel_rfl) (by simp) ?_
        refine AllReadyH.cons (o := { dst := some 7, op := Go.Op.assign (Go.Operand.tmp 23), type := 145, pos := "ref.go:197", after := #[{ on := 9, ground := Go.Ground.data }, { on := 0, ground := Go.Ground.phase }, { on := 1, ground := Go.Ground.phase }, { on := 2, ground := Go.Ground.phase }, { on := 3, ground := Go.Ground.phase }, { on := 4, ground := Go.Ground.phase }, { on := 5, ground := Go.Ground.phase }, { on := 6, ground := Go.Ground.phase }, { on := 7, ground := Go.Ground.phase }, { on := 8, ground := Go.Ground.phase }, { on := 9, ground := Go.Ground.phase }], guard := none }) rfl (fun K hK => ?_) AllReadyH.nil
        rw [if_pos (by kernel_rfl)]
        go_simp
        refine hK.out _ _ hS (fun hS2 => ?_)
        clear hK K hS hS2
        refine wpAnyH_done (by kernel_rfl) ?_ _
        generalize wr.drew = w9 at *
        go_wp2
        go_roundw
        case rel => exact ⟨k + 1, by simp, by omega, HR2⟩
        case measure => simp [intOf]; omega
      | cons mm ms =>
        obtain ⟨g, off, off2, c, rfl, hc1, hc0, hz2, ho2⟩ := OwnZ.front (x := mm.v) (xs := ms.map (·.v)) hz
        rw [List.length_map] at *
        have HSC := Hid.of (show ∀ w5, Up w w5 → w5.cell? ⟨wb, i, none⟩ = some (.slice (some ⟨g, off, none⟩) (ms.length + 1) c) from fun w5 hu => hu.cell hcs)
        have hgt := hz.tag (g := g) rfl
        have hgw : g ≠ wb := fun e => by
          have t := row_tag HN.out.wo (g := wb) (by rw [HWV.out]; rfl)
          rw [← e, hgt] at t; cases t
        have hgn : R.nb ≠ wb := fun e => by
          have t := row_tag HN.out.wo (g := wb) (by rw [HWV.out]; rfl)
          rw [← e, HN.out.net.tag] at t; cases t
        have hfind : is.find? (hasA (absR R)) = some i := by
          rw [← HIK.out]
          exact find_take hkl HR.out.1 (by rw [HIK.out, HH.out]; rfl)
        have HFI := Hid.of hfind
        have hmw : Ow w 0 mm.v mm.d := HN.out.ms mm (List.mem_append.2 (.inl (List.mem_flatMap.2 ⟨_, get_mem HLL.out, List.mem_cons_self⟩)))
        obtain ⟨ma, mc, hmv, hmc, _⟩ := Ow.sb hmw
        have HMW := Hid.of hmw
        have HMV := Hid.of hmv
        rw [hmv] at hc0
        have HMC := Hid.of hc0
        have HZ2 := Hid.of hz2
        have HO2 := Hid.of ho2
        have HW := Hid.of (And.intro hgw hgn)
        have hc1z : (ms.length : Int) + 1 ≤ (c : Int) := by omega
        have h1z : (1 : Int) ≤ (ms.length : Int) + 1 := by omega
        have h0z : (0 : Int) < (ms.length : Int) + 1 := by omega
        have HLP := Hid.of (And.intro hlk (And.intro hc1 trivial))
        clear hz hcs hgt hgw hgn hfind hmw hmv hc0 hz2 hc1 ho2
        go_wp2
        refine wp_region_held_drew (S := fun w2 => Up wr w2) (by kernel_rfl) ((Up.refl wr).drew) (fun hS => ?_)
        refine wpAnyH_take (i := 0) (oi := { dst := some 14, op := Go.Op.move (Go.Operand.tmp 0), type := 35, pos := "ref.go:197", after := #[], guard := none }) (v := .pointer (some ⟨R.nb, 0, none⟩)) rfl (by kernel_rfl) (by kernel_rfl) (by kernel_rfl) (fun _ _ _ h => h) (Or.inl ⟨by kernel_rfl, ?_⟩) hS ?_
        · intro w5 hSw
          clear hSw hS
          go_simp
        simp only [Act.put, List.setIfInBounds_toArray, List.set_cons_zero, List.set_cons_succ]
        refine wpAnyH_take (i := 1) (oi := { dst := some 15, op := Go.Op.nilCheck (Go.Operand.tmp 14), type := 0, pos := "ref.go:197", after := #[{ on := 0, ground := Go.Ground.data }], guard := none }) (v := .pointer (some ⟨R.nb, 0, none⟩)) rfl (by kernel_rfl) (by kernel_rfl) (by kernel_rfl) (fun _ _ _ h => h) (Or.inl ⟨by kernel_rfl, ?_⟩) hS ?_
        · intro w5 hSw
          clear hSw hS
          go_simp
        simp only [Act.put, List.setIfInBounds_toArray, List.set_cons_zero, List.set_cons_succ]
        refine wpAnyH_take (i := 2) (oi := { dst := some 16, op := Go.Op.fieldAddr 114 (Go.Operand.tmp 15) 3, type := 0, pos := "ref.go:197", after := #[{ on := 1, ground := Go.Ground.data }], guard := none }) (v := .pointer (some ⟨R.nb, 3, none⟩)) rfl (by kernel_rfl) (by kernel_rfl) (by kernel_rfl) (fun _ _ _ h => h) (Or.inl ⟨by kernel_rfl, ?_⟩) hS ?_
        · intro w5 hSw
          clear hSw hS
          go_simp
        simp only [Act.put, List.setIfInBounds_toArray, List.set_cons_zero, List.set_cons_succ]
        refine wpAnyH_take (i := 3) (oi := { dst := some 17, op := Go.Op.load 111 (Go.Operand.tmp 16), type := 111, pos := "ref.go:197", after := #[{ on := 2, ground := Go.Ground.data }], guard := none }) (v := .slice (some ⟨wb, 0, none⟩) R.ws.length wc) rfl (by kernel_rfl) (by kernel_rfl) (by kernel_rfl) (fun _ _ _ h => h) (Or.inl ⟨by kernel_rfl, ?_⟩) hS ?_
        · intro w5 hSw
          have h0 := HC3.out w5 (HR.out.2.trans hSw)
          clear hSw hS
          go_simp
        simp only [Act.put, List.setIfInBounds_toArray, List.set_cons_zero, List.set_cons_succ]
        refine wpAnyH_take (i := 4) (oi := { dst := some 18, op := Go.Op.move (Go.Operand.tmp 1), type := 51, pos := "ref.go:197", after := #[], guard := none }) (v := .slice (some ⟨lb, lo, none⟩) n lk) rfl (by kernel_rfl) (by kernel_rfl) (by kernel_rfl) (fun _ _ _ h => h) (Or.inl ⟨by kernel_rfl, ?_⟩) hS ?_
        · intro w5 hSw
          clear hSw hS
          go_simp
        simp only [Act.put, List.setIfInBounds_toArray, List.set_cons_zero, List.set_cons_succ]
        refine wpAnyH_take (i := 5) (oi := { dst := some 19, op := Go.Op.move (Go.Operand.tmp 6), type := 3, pos := "ref.go:197", after := #[], guard := none }) (v := .int .i64 (k : Int)) rfl (by kernel_rfl) (by kernel_rfl) (by kernel_rfl) (fun _ _ _ h => h) (Or.inl ⟨by kernel_rfl, ?_⟩) hS ?_
        · intro w5 hSw
          clear hSw hS
          go_simp
        simp only [Act.put, List.setIfInBounds_toArray, List.set_cons_zero, List.set_cons_succ]
        refine wpAnyH_take (i := 6) (oi := { dst := some 20, op := Go.Op.indexAddr 51 (Go.Operand.tmp 18) (Go.Operand.tmp 19), type := 0, pos := "ref.go:197", after := #[{ on := 4, ground := Go.Ground.data }, { on := 5, ground := Go.Ground.data }], guard := none }) (v := .pointer (some ⟨lb, lo + k, none⟩)) rfl (by kernel_rfl) (by kernel_rfl) (by kernel_rfl) (fun _ _ _ h => h) (Or.inl ⟨by kernel_rfl, ?_⟩) hS ?_
        · intro w5 hSw
          clear hSw hS
          go_simp
        simp only [Act.put, List.setIfInBounds_toArray, List.set_cons_zero, List.set_cons_succ]
        refine wpAnyH_take (i := 7) (oi := { dst := some 21, op := Go.Op.load 3 (Go.Operand.tmp 20), type := 3, pos := "ref.go:197", after := #[{ on := 6, ground := Go.Ground.data }], guard := none }) (v := .int .i64 (i : Int)) rfl (by kernel_rfl) (by kernel_rfl) (by kernel_rfl) (fun _ _ _ h => h) (Or.inl ⟨by kernel_rfl, ?_⟩) hS ?_
        · intro w5 hSw
          have h0 := (HR.out.2.trans hSw).cell HLI.out
          clear hSw hS
          go_simp
        simp only [Act.put, List.setIfInBounds_toArray, List.set_cons_zero, List.set_cons_succ]
        refine wpAnyH_take (i := 8) (oi := { dst := some 22, op := Go.Op.indexAddr 111 (Go.Operand.tmp 17) (Go.Operand.tmp 21), type := 0, pos := "ref.go:197", after := #[{ on := 3, ground := Go.Ground.data }, { on := 7, ground := Go.Ground.data }], guard := none }) (v := .pointer (some ⟨wb, i, none⟩)) rfl (by kernel_rfl) (by kernel_rfl) (by kernel_rfl) (fun _ _ _ h => h) (Or.inl ⟨by kernel_rfl, ?_⟩) hS ?_
        · intro w5 hSw
          clear hSw hS
          go_simp
        simp only [Act.put, List.setIfInBounds_toArray, List.set_cons_zero, List.set_cons_succ]
        refine wpAnyH_take (i := 9) (oi := { dst := some 23, op := Go.Op.load 145 (Go.Operand.tmp 22), type := 145, pos := "ref.go:197", after := #[{ on := 8, ground := Go.Ground.data }], guard := none }) (v := .slice (some ⟨g, off, none⟩) (ms.length + 1) c) rfl (by kernel_rfl) (by kernel_rfl) (by kernel_rfl) (fun _ _ _ h => h) (Or.inl ⟨by kernel_rfl, ?_⟩) hS ?_
        · intro w5 hSw
          have h0 := HSC.out w5 (HR.out.2.trans hSw)
          clear hSw hS
          go_simp
        simp only [Act.put, List.setIfInBounds_toArray, List.set_cons_zero, List.set_cons_succ]
        refine wpAnyH_ready (rs := [10]) (by kernel_rfl) (by simp) ?_
        refine AllReadyH.cons (o := { dst := some 7, op := Go.Op.assign (Go.Operand.tmp 23), type := 145, pos := "ref.go:197", after := #[{ on := 9, ground := Go.Ground.data }, { on := 0, ground := Go.Ground.phase }, { on := 1, ground := Go.Ground.phase }, { on := 2, ground := Go.Ground.phase }, { on := 3, ground := Go.Ground.phase }, { on := 4, ground := Go.Ground.phase }, { on := 5, ground := Go.Ground.phase }, { on := 6, ground := Go.Ground.phase }, { on := 7, ground := Go.Ground.phase }, { on := 8, ground := Go.Ground.phase }, { on := 9, ground := Go.Ground.phase }], guard := none }) rfl (fun K hK => ?_) AllReadyH.nil
        rw [if_pos (by kernel_rfl)]
        go_simp
        refine hK.out _ _ hS (fun hS2 => ?_)
        clear hK K hS hS2
        refine wpAnyH_done (by kernel_rfl) ?_ _
        have HU9 := Hid.of (HR.out.2.trans (Up.refl wr).drew)
        generalize wr.drew = w9 at *
        go_wp2
        refine wp_region_held_drew (S := fun w2 => Fr (fun q => q = wb) w9 w2) (by kernel_rfl) ((Fr.refl _ _).up (Up.refl _).drew) (fun hS => ?_)
        refine wpAnyH_take (i := 0) (oi := { dst := some 27, op := Go.Op.move (Go.Operand.tmp 0), type := 35, pos := "ref.go:199", after := #[], guard := none }) (v := .pointer (some ⟨R.nb, 0, none⟩)) rfl (by kernel_rfl) (by kernel_rfl) (by kernel_rfl) (fun _ _ _ h => h) (Or.inl ⟨by kernel_rfl, ?_⟩) hS ?_
        · intro w5 hSw
          clear hSw hS
          go_simp
        simp only [Act.put, List.setIfInBounds_toArray, List.set_cons_zero, List.set_cons_succ]
        refine wpAnyH_take (i := 1) (oi := { dst := some 28, op := Go.Op.nilCheck (Go.Operand.tmp 27), type := 0, pos := "ref.go:199", after := #[{ on := 0, ground := Go.Ground.data }], guard := none }) (v := .pointer (some ⟨R.nb, 0, none⟩)) rfl (by kernel_rfl) (by kernel_rfl) (by kernel_rfl) (fun _ _ _ h => h) (Or.inl ⟨by kernel_rfl, ?_⟩) hS ?_
        · intro w5 hSw
          clear hSw hS
          go_simp
        simp only [Act.put, List.setIfInBounds_toArray, List.set_cons_zero, List.set_cons_succ]
        refine wpAnyH_take (i := 2) (oi := { dst := some 29, op := Go.Op.fieldAddr 114 (Go.Operand.tmp 28) 3, type := 0, pos := "ref.go:199", after := #[{ on := 1, ground := Go.Ground.data }], guard := none }) (v := .pointer (some ⟨R.nb, 3, none⟩)) rfl (by kernel_rfl) (by kernel_rfl) (by kernel_rfl) (fun _ _ _ h => h) (Or.inl ⟨by kernel_rfl, ?_⟩) hS ?_
        · intro w5 hSw
          clear hSw hS
          go_simp
        simp only [Act.put, List.setIfInBounds_toArray, List.set_cons_zero, List.set_cons_succ]
        refine wpAnyH_take (i := 3) (oi := { dst := some 30, op := Go.Op.load 111 (Go.Operand.tmp 29), type := 111, pos := "ref.go:199", after := #[{ on := 2, ground := Go.Ground.data }], guard := none }) (v := .slice (some ⟨wb, 0, none⟩) R.ws.length wc) rfl (by kernel_rfl) (by kernel_rfl) (by kernel_rfl) (fun _ _ _ h => h) (Or.inl ⟨by kernel_rfl, ?_⟩) hS ?_
        · intro w5 hSw
          have h0 := (hSw.at (HN.out.net.up HU9.out) HW.out.2).cell (i := 3) rfl
          rw [HWV.out] at h0
          clear hSw hS
          go_simp
        simp only [Act.put, List.setIfInBounds_toArray, List.set_cons_zero, List.set_cons_succ]
        refine wpAnyH_take (i := 4) (oi := { dst := some 31, op := Go.Op.move (Go.Operand.tmp 1), type := 51, pos := "ref.go:199", after := #[], guard := none }) (v := .slice (some ⟨lb, lo, none⟩) n lk) rfl (by kernel_rfl) (by kernel_rfl) (by kernel_rfl) (fun _ _ _ h => h) (Or.inl ⟨by kernel_rfl, ?_⟩) hS ?_
        · intro w5 hSw
          clear hSw hS
          go_simp
        simp only [Act.put, List.setIfInBounds_toArray, List.set_cons_zero, List.set_cons_succ]
        refine wpAnyH_take (i := 5) (oi := { dst := some 32, op := Go.Op.move (Go.Operand.tmp 6), type := 3, pos := "ref.go:199", after := #[], guard := none }) (v := .int .i64 (k : Int)) rfl (by kernel_rfl) (by kernel_rfl) (by kernel_rfl) (fun _ _ _ h => h) (Or.inl ⟨by kernel_rfl, ?_⟩) hS ?_
        · intro w5 hSw
          clear hSw hS
          go_simp
        simp only [Act.put, List.setIfInBounds_toArray, List.set_cons_zero, List.set_cons_succ]
        refine wpAnyH_take (i := 6) (oi := { dst := some 33, op := Go.Op.indexAddr 51 (Go.Operand.tmp 31) (Go.Operand.tmp 32), type := 0, pos := "ref.go:199", after := #[{ on := 4, ground := Go.Ground.data }, { on := 5, ground := Go.Ground.data }], guard := none }) (v := .pointer (some ⟨lb, lo + k, none⟩)) rfl (by kernel_rfl) (by kernel_rfl) (by kernel_rfl) (fun _ _ _ h => h) (Or.inl ⟨by kernel_rfl, ?_⟩) hS ?_
        · intro w5 hSw
          clear hSw hS
          go_simp
        simp only [Act.put, List.setIfInBounds_toArray, List.set_cons_zero, List.set_cons_succ]
        refine wpAnyH_take (i := 7) (oi := { dst := some 34, op := Go.Op.load 3 (Go.Operand.tmp 33), type := 3, pos := "ref.go:199", after := #[{ on := 6, ground := Go.Ground.data }], guard := none }) (v := .int .i64 (i : Int)) rfl (by kernel_rfl) (by kernel_rfl) (by kernel_rfl) (fun _ _ _ h => h) (Or.inl ⟨by kernel_rfl, ?_⟩) hS ?_
        · intro w5 hSw
          have h0 : w5.cell? ⟨lb, lo + k, none⟩ = some (.int .i64 (i : Int)) := by rw [World.cell?_of_block (a := ⟨lb, lo + k, none⟩) (hSw.block lb (World.block_lt_of_cell? w9 _ (HU9.out.cell HLI.out)) HNE.out)]; exact HU9.out.cell HLI.out
          clear hSw hS
          go_simp
        simp only [Act.put, List.setIfInBounds_toArray, List.set_cons_zero, List.set_cons_succ]
        refine wpAnyH_take (i := 8) (oi := { dst := some 35, op := Go.Op.move (Go.Operand.tmp 7), type := 145, pos := "ref.go:199", after := #[], guard := none }) (v := .slice (some ⟨g, off, none⟩) (ms.length + 1) c) rfl (by kernel_rfl) (by kernel_rfl) (by kernel_rfl) (fun _ _ _ h => h) (Or.inl ⟨by kernel_rfl, ?_⟩) hS ?_
        · intro w5 hSw
          clear hSw hS
          go_simp
        simp only [Act.put, List.setIfInBounds_toArray, List.set_cons_zero, List.set_cons_succ]
        refine wpAnyH_take (i := 9) (oi := { dst := some 36, op := Go.Op.slice 145 (Go.Operand.tmp 35) (some (Go.Operand.const (Go.Value.int Go.IntKind.i64 1))) none none, type := 145, pos := "ref.go:199", after := #[{ on := 8, ground := Go.Ground.data }], guard := none }) (v := .slice (some ⟨g, off2, none⟩) ms.length (c - 1)) rfl (by kernel_rfl) (by kernel_rfl) (by kernel_rfl) (fun _ _ _ h => h) (Or.inl ⟨by kernel_rfl, ?_⟩) hS ?_
        · intro w5 hSw
          clear hSw hS
          (go_simp; rw [← HO2.out]; split <;> rfl)
        simp only [Act.put, List.setIfInBounds_toArray, List.set_cons_zero, List.set_cons_succ]
        refine wpAnyH_take (i := 10) (oi := { dst := some 37, op := Go.Op.indexAddr 111 (Go.Operand.tmp 30) (Go.Operand.tmp 34), type := 0, pos := "ref.go:199", after := #[{ on := 3, ground := Go.Ground.data }, { on := 7, ground := Go.Ground.data }, { on := 0, ground := Go.Ground.phase }, { on := 1, ground := Go.Ground.phase }, { on := 2, ground := Go.Ground.phase }, { on := 3, ground := Go.Ground.phase }, { on := 4, ground := Go.Ground.phase }, { on := 5, ground := Go.Ground.phase }, { on := 6, ground := Go.Ground.phase }, { on := 7, ground := Go.Ground.phase }, { on := 8, ground := Go.Ground.phase }, { on := 9, ground := Go.Ground.phase }], guard := none }) (v := .pointer (some ⟨wb, i, none⟩)) rfl (by kernel_rfl) (by kernel_rfl) (by kernel_rfl) (fun _ _ _ h => h) (Or.inl ⟨by kernel_rfl, ?_⟩) hS ?_
        · intro w5 hSw
          clear hSw hS
          go_simp
        simp only [Act.put, List.setIfInBounds_toArray, List.set_cons_zero, List.set_cons_succ]
        refine wpAnyH_ready (rs := [11]) (by kernel_rfl) (by simp) ?_
        refine AllReadyH.cons (o := { dst := none, op := Go.Op.store 145 (Go.Operand.tmp 37) (Go.Operand.tmp 36), type := 0, pos := "ref.go:199", after := #[{ on := 10, ground := Go.Ground.data }, { on := 9, ground := Go.Ground.data }, { on := 0, ground := Go.Ground.phase }, { on := 1, ground := Go.Ground.phase }, { on := 2, ground := Go.Ground.phase }, { on := 3, ground := Go.Ground.phase }, { on := 4, ground := Go.Ground.phase }, { on := 5, ground := Go.Ground.phase }, { on := 6, ground := Go.Ground.phase }, { on := 7, ground := Go.Ground.phase }, { on := 8, ground := Go.Ground.phase }, { on := 9, ground := Go.Ground.phase }], guard := none }) rfl (fun K hK => ?_) AllReadyH.nil
        rw [if_pos (by kernel_rfl)]
        have cw : w9.drew.cell? ⟨wb, i, none⟩ = some (.slice (some ⟨g, off, none⟩) (ms.length + 1) c) := (HU9.out.trans (Up.refl w9).drew).cell (HSC.out w (Up.refl w))
        have hwo := ow_up HN.out.wo (HU9.out.trans (Up.refl w9).drew)
        rw [HWV.out] at hwo
        have tw : w9.drew.frozen? ⟨wb, i, none⟩ = false := own_thaw hwo i
        have HP := Hid.of (show RStp 0 w (w9.setCell ⟨wb, i, none⟩ (.slice (some ⟨g, off2, none⟩) ms.length (c - 1))).drew R (wWs R i ⟨.slice (some ⟨g, off2, none⟩) ms.length (c - 1), ms, sh⟩) (popA (absR R) i) from HN.out.pop (v' := .slice (some ⟨g, off2, none⟩) ms.length (c - 1)) HLL.out HWV.out rfl HZ2.out (HU9.out.trans (Up.refl w9).drew))
        have HFX := Hid.of (show Fr (fun q => q = wb) w9 (w9.setCell ⟨wb, i, none⟩ (.slice (some ⟨g, off2, none⟩) ms.length (c - 1))).drew from ((Fr.refl (fun q => q = wb) w9).by (grown_set w9 ⟨wb, i, none⟩ (.slice (some ⟨g, off2, none⟩) ms.length (c - 1))) (fun g hg => .inl (Option.some.inj hg).symm)).up (Up.refl _).drew)
        go_simp
        clear cw hwo tw
        generalize (w9.setCell ⟨wb, i, none⟩ (.slice (some ⟨g, off2, none⟩) ms.length (c - 1))).drew = w4 at *
        refine hK.out _ _ HFX.out (fun hS2 => ?_)
        clear hK K hS hS2
        refine wpAnyH_done (by kernel_rfl) ?_ _
        have hlb : w4.cell? ⟨lb, lo + k, none⟩ = some (.int .i64 (i : Int)) := by
          rw [World.cell?_of_block (a := ⟨lb, lo + k, none⟩) (HFX.out.block lb (World.block_lt_of_cell? w9 _ (HU9.out.cell HLI.out)) HNE.out)]
          exact HU9.out.cell HLI.out
        have hgc : w4.cell? ⟨g, off, none⟩ = some (.slice ma mm.d.length mc) := by
          rw [World.cell?_of_block (a := ⟨g, off, none⟩) (HFX.out.block g (World.block_lt_of_cell? w9 _ (HU9.out.cell HMC.out)) HW.out.1)]
          exact HU9.out.cell HMC.out
        go_wp2
        go_quiet (fail)
        go_wp2
        go_ret2
        refine ⟨_, _, rfl, .inr ⟨i, rfl, HFI.out, _, HP.out.up' ((Up.refl w4).drewN _), ?_, Nat.le_refl _, rfl, fun m hm => ?_, rfl⟩⟩
        · have e : firstA (absR R) i = mm.d := by
            unfold firstA
            rw [absR_ls HLL.out]
            rfl
          rw [e]
          have hx := (HP.out.fr.up ((Up.refl w4).drewN nq)).own HMW.out (fun g hg hk => by
            have t := row_tag HMW.out hg
            rcases HN.out.tag hk with h | h | h | h | h <;> rw [t] at h <;> cases h)
          rw [HMV.out] at hx
          exact hx
        · rcases rmsgs_set hm with h1 | h1
          · exact List.mem_append.2 (.inl (List.mem_flatMap.2 ⟨_, get_mem HLL.out, List.mem_cons_of_mem _ h1⟩))
          · exact h1
    · have hkz : ¬ (k : Int) < (n : Int) := by omega
      obtain rfl : k = n := by omega
      have HT := Hid.of (show is.find? (hasA (absR R)) = none from by
        have := hR.out.1
        rw [List.take_of_length_le (by rw [HNN.out.1]; exact Nat.le_refl _)] at this
        rw [List.find?_eq_none]
        intro x hx
        simpa using List.all_eq_true.1 this x hx)
      go_wp2
      go_ret2
      exact ⟨_, _, rfl, .inl ⟨rfl, rfl, HT.out, hR.out.2⟩⟩
end Go.Proofs.Ytdlfkdehfenemaa
namespace Go.Proofs.Ytdlfkdehfenemaa
open Go.RowKit Go.Conc TextNum
/-! ### a leap is as many ticks -/
theorem nxt_facts (pd : List PC) : ∀ lim : Nat, nxt pd lim ≤ lim ∧ (∀ p ∈ pd, nxt pd lim ≤ p.t) ∧ ∀ a, (∀ p ∈ pd, a < p.t) → a < lim → a < nxt pd lim := by
  induction pd with
  | nil => exact fun lim => ⟨Nat.le_refl _, fun p hp => (by cases hp), fun a _ h => h⟩
  | cons p r ih =>
    intro lim
    have e : nxt (p :: r) lim = nxt r (if p.t < lim then p.t else lim) := rfl
    rw [e]
    obtain ⟨h1, h2, h3⟩ := ih (if p.t < lim then p.t else lim)
    have h4 : (if p.t < lim then p.t else lim) ≤ lim ∧ (if p.t < lim then p.t else lim) ≤ p.t := by split <;> omega
    refine ⟨by omega, fun q hq => ?_, fun a ha hl => h3 a (fun q hq => ha q (List.mem_cons_of_mem _ hq)) ?_⟩
    · rcases List.mem_cons.1 hq with rfl | hq
      · omega
      · exact h2 q hq
    · have := ha p List.mem_cons_self
      split <;> omega
theorem tick_idle {A : AN} (h : ∀ p ∈ A.pd, A.now + 1 < p.1) : tickA A = { A with now := A.now + 1 } := by
  unfold tickA
  have e1 : (A.pd.filter fun p => p.1 == A.now + 1) = [] := by
    rw [List.filter_eq_nil_iff]
    intro p hp
    have := h p hp
    simp
    omega
  have e2 : (A.pd.filter fun p => p.1 != A.now + 1) = A.pd := by
    rw [List.filter_eq_self]
    intro p hp
    have := h p hp
    simp
    omega
  rw [e1, e2]
  rfl
theorem aw_leap (is : List Nat) : ∀ (k n : Nat) (A : AN), k + 1 ≤ n → is.find? (hasA A) = none → ¬ is.all (endA A) = true → (∀ p ∈ A.pd, A.now + (k + 1) ≤ p.1) → awA n A is = awA (n - (k + 1)) (reachA A (A.now + (k + 1))) is
  | 0, n, A, hn, hf, he, hp => by
    obtain ⟨m, rfl⟩ : ∃ m, n = m + 1 := ⟨n - 1, by omega⟩
    rw [awA_tick hf he, tick_reach]
    rfl
  | k + 1, n, A, hn, hf, he, hp => by
    obtain ⟨m, rfl⟩ : ∃ m, n = m + 1 := ⟨n - 1, by omega⟩
    rw [awA_tick hf he, tick_idle (fun p hpp => by have := hp p hpp; omega)]
    have := aw_leap is k m { A with now := A.now + 1 } (by omega) hf he (fun p hpp => by have := hp p hpp; dsimp only; omega)
    rw [this]
    have e : ({ A with now := A.now + 1 } : AN).now + (k + 1) = A.now + (k + 1 + 1) := by dsimp only; omega
    rw [e, show m + 1 - (k + 1 + 1) = m - (k + 1) by omega]
    rfl
theorem it_idle : ∀ (k : Nat) (A : AN), (∀ p ∈ A.pd, A.now + k < p.1) → itA k A = { A with now := A.now + k }
  | 0, _, _ => rfl
  | k + 1, A, h => by
    show tickA (itA k A) = _
    rw [it_idle k A (fun p hp => by have := h p hp; omega)]
    exact tick_idle (A := { A with now := A.now + k }) (fun p hp => by have := h p hp; dsimp only; omega)
theorem it_leap (k : Nat) (A : AN) (h : ∀ p ∈ A.pd, A.now + (k + 1) ≤ p.1) : itA (k + 1) A = reachA A (A.now + (k + 1)) := by
  show tickA (itA k A) = _
  rw [it_idle k A (fun p hp => by have := h p hp; omega), tick_reach]
  rfl
theorem itA_add (A : AN) (a : Nat) : ∀ b, itA (a + b) A = itA b (itA a A)
  | 0 => rfl
  | b + 1 => by
    show tickA (itA (a + b) A) = tickA (itA b (itA a A))
    rw [itA_add A a b]
theorem arrA_len (ps : List (Nat × Nat × List UInt8)) (A : AN) : (arrA A ps).ls.length = A.ls.length := (arrA_pd ps A).2.2.2
/-- what is asked of a net at any time -/
structure ASo (A : AN) : Prop where
  pd : ∀ p ∈ A.pd, A.now < p.1 ∧ p.2.1 < A.ls.length
  n : A.ls.length ≤ 64
  fk : ∀ f ∈ A.fs, fok f = true
theorem ASo.of {S : NS} (k : SOk S) : ASo (abs S) := by
  refine ⟨fun p hp => ?_, by unfold abs; simpa using k.n, k.fk⟩
  obtain ⟨q, hq, rfl⟩ := List.mem_map.1 (show p ∈ S.pd.map absP from hp)
  have := k.pd q hq
  refine ⟨this.1, ?_⟩
  show q.i < (S.ls.map absL).length
  rw [List.length_map]
  exact this.2
theorem ASo.reach {A : AN} (h : ASo A) {t : Nat} (ht : ∀ p ∈ A.pd, t ≤ p.1) : ASo (reachA A t) := by
  refine ⟨fun p hp => ?_, ?_, ?_⟩
  · obtain ⟨h1, h2⟩ := List.mem_filter.1 (show p ∈ A.pd.filter (fun p => p.1 != t) from hp)
    have h3 := ht p h1
    have h4 : p.1 ≠ t := by simpa using h2
    refine ⟨?_, ?_⟩
    · show (arrA { A with now := t } (A.pd.filter fun p => p.1 == t)).now < p.1
      rw [(arrA_pd _ _).2.1]
      show t < p.1
      omega
    · show p.2.1 < (arrA { A with now := t } (A.pd.filter fun p => p.1 == t)).ls.length
      rw [arrA_len]
      exact (h.pd p h1).2
  · show (arrA { A with now := t } (A.pd.filter fun p => p.1 == t)).ls.length ≤ 64
    rw [arrA_len]
    exact h.n
  · show ∀ f ∈ (arrA { A with now := t } (A.pd.filter fun p => p.1 == t)).fs, fok f = true
    rw [(arrA_pd _ _).2.2.1]
    exact h.fk
theorem reachA_now (A : AN) (t : Nat) : (reachA A t).now = t := (arrA_pd (A.pd.filter fun p => p.1 == t) { A with now := t }).2.1
theorem reachA_len (A : AN) (t : Nat) : (reachA A t).ls.length = A.ls.length := arrA_len _ _
theorem absR_pd {R : RS} {P : Nat → Nat → Prop} (h : ∀ p ∈ (absR R).pd, P p.1 p.2.1) : ∀ p ∈ R.pd, P p.t p.i := fun p hp => h (absP p) (List.mem_map.2 ⟨p, hp, rfl⟩)
theorem absR_len (R : RS) : (absR R).ls.length = R.ws.length := by unfold absR; simp
theorem RStp.re {w w' : World} {R R' : RS} {A : AN} {N : Nat} (h : RStp 0 w w' R R' A) (hm : ∀ m ∈ rmsgs R', m ∈ rmsgs R) (hf : R'.fv = R.fv) : RStp N w w' R R' A :=
  ⟨h.ok, h.ab, h.fr, h.no, fun x hx => .inl (by
    rcases hx with hx | ⟨m, hm2, hx⟩
    · exact .inl (by rw [← hf]; exact hx)
    · exact .inr ⟨m, hm m hm2, hx⟩), h.nb, h.fs, h.ln⟩
end Go.Proofs.Ytdlfkdehfenemaa
namespace Go.Proofs.Ytdlfkdehfenemaa
open Go.RowKit Go.Conc TextNum
/-! ### the document's calls -/
set_option maxRecDepth 100000 in
theorem RNow_walk (w : World) (R : RS) (h : ROk w R) : Calls Try.prog 61 #[.pointer (some ⟨R.nb, 0, none⟩)] w fun e w' => e = .returned (.int .i64 (R.now : Int)) ∧ w' = w := by
  have c0 := h.net.cell (i := 0) rfl
  clear h
  go_enter Try.func61, Try.ntmps61
  go_wp2
  go_ret
  exact ⟨rfl, rfl⟩
set_option maxRecDepth 100000 in
theorem RClose_no (w : World) (R : RS) (z : Int) (h : ROk w R) (hz : isR R z = false) : Calls Try.prog 62 #[.pointer (some ⟨R.nb, 0, none⟩), .int .i64 z] w fun e w' => e = .returned (.int .i64 192) ∧ w' = w := by
  have hH := Ris_walk w R z h
  rw [hz] at hH
  clear h
  go_enter Try.func62, Try.ntmps62
  go_wp2_with fail
  refine hH.mono ?_
  rintro e w1 ⟨rfl, rfl⟩
  dsimp only
  go_wp2
  go_ret
  exact ⟨rfl, rfl⟩
set_option maxRecDepth 100000 in
theorem RClose_shut (w : World) (R : RS) (i : Nat) (l : RC) (h : ROk w R) (hl : R.ws[i]? = some l) (hs : l.sh = true) : Calls Try.prog 62 #[.pointer (some ⟨R.nb, 0, none⟩), .int .i64 (i : Int)] w fun e w' => e = .returned (.int .i64 191) ∧ w' = w := by
  have hH := Ris_walk w R (i : Int) h
  rw [isR_nat hl] at hH
  have hi := (List.getElem?_eq_some_iff.1 hl).1
  obtain ⟨sb, sc, hsv, hsc, c1⟩ := h.sh_cell hl
  have c0 := h.net.cell (i := 4) rfl
  rw [hsv] at c0
  rw [hs] at c1
  clear h
  go_enter Try.func62, Try.ntmps62
  go_wp2_with fail
  refine hH.mono ?_
  rintro e w1 ⟨rfl, rfl⟩
  dsimp only
  go_wp2
  go_ret
  exact ⟨rfl, rfl⟩
def shutA (A : AN) (i : Nat) : AN := { A with ls := A.ls.modify i fun x => (x.1, true) }
set_option maxRecDepth 100000 in
set_option maxHeartbeats 1000000 in
theorem RClose_yes (w : World) (R : RS) (i : Nat) (l : RC) (h : ROk w R) (hl : R.ws[i]? = some l) (hs : l.sh = false) : Calls Try.prog 62 #[.pointer (some ⟨R.nb, 0, none⟩), .int .i64 (i : Int)] w fun e w' => e = .returned (.int .i64 0) ∧ ∃ R', RStp w.heap.size w w' R R' (shutA (absR R) i) ∧ R'.pd = R.pd ∧ R'.st = R.st := by
  have hH := Ris_walk w R (i : Int) h
  rw [isR_nat hl] at hH
  have hi := (List.getElem?_eq_some_iff.1 hl).1
  obtain ⟨sb, sc, hsv, hsc, c1⟩ := h.sh_cell hl
  have c0 := h.net.cell (i := 4) rfl
  rw [hsv] at c0
  rw [hs] at c1
  have hso := h.so
  rw [hsv] at hso
  have t1 := own_thaw hso i
  have hst := World.ownsRow.stored hso i (.bool true)
  have HST := Hid.of hst
  have HN := Hid.of h
  have HSV := Hid.of hsv
  have HL := Hid.of hl
  have HT := Hid.of (row_tag hso (g := sb) rfl)
  clear h hst hso hsv hl
  go_enter Try.func62, Try.ntmps62
  go_wp2_with fail
  refine hH.mono ?_
  rintro e w1 ⟨rfl, rfl⟩
  dsimp only
  go_wp2
  go_ret
  generalize w1.setCell ⟨sb, i, none⟩ (.bool true) = W2 at *
  have hf : Fr (fun k => k = sb) w1 W2 := (Fr.refl _ w1).by HST.out.2 (fun g hg => .inl (Option.some.inj hg).symm)
  have no : ∀ k t, otag w1 k = some t → t ≠ 4 → ¬ k = sb := fun k t ht h1 e => by
    rw [e, HT.out] at ht
    exact h1 (Option.some.inj ht).symm
  have K := HN.out
  refine ⟨rfl, wWs R i { l with sh := true }, ⟨⟨hf.at K.net (no _ _ K.net.tag (by decide)), hf.own K.ft (fun g hg => no g _ (row_tag K.ft hg) (by decide)), ?_, ?_, hf.own K.lo (fun g hg => no g _ (row_tag K.lo hg) (by decide)), fun x hx => ?_, fun j j' a b g hne ha hb hg => ?_, fun m hm => ?_⟩, ?_, hf.weak (fun g hg => .inr (.inr (.inl (by rw [hg, HSV.out]; rfl)))), fun x hx => .inl ?_, fun x hx => .inl ?_, rfl, rfl, by simp⟩, rfl, rfl⟩
  · have e : wvs (R.ws.set i { l with sh := true }) = wvs R.ws := by
      rw [wvs_set]
      exact set_same' (show (wvs R.ws)[i]? = some l.v from wvs_get HL.out)
    have := hf.own K.wo (fun g hg => no g _ (row_tag K.wo hg) (by decide))
    simpa only [List.length_set, e] using this
  · show W2.ownsRow 0 4 1 R.sv (R.ws.set i { l with sh := true }).length (svs (R.ws.set i { l with sh := true }))
    rw [svs_set, List.length_set, HSV.out]
    exact HST.out.1
  · rcases mem_set hx with rfl | hx
    · exact hf.ownz (K.rw l (get_mem HL.out)) (fun g hg => no g _ ((K.rw l (get_mem HL.out)).tag hg) (by decide))
    · exact hf.ownz (K.rw x hx) (fun g hg => no g _ ((K.rw x hx).tag hg) (by decide))
  · have key : ∀ (q : Nat) (a : RC), (R.ws.set i { l with sh := true })[q]? = some a → ∃ a', R.ws[q]? = some a' ∧ a'.v = a.v := fun q a ha => by
      by_cases e : i = q
      · subst e
        rw [set_get' HL.out] at ha
        obtain rfl := Option.some.inj ha
        exact ⟨l, HL.out, rfl⟩
      · rw [List.getElem?_set_ne e] at ha
        exact ⟨a, ha, rfl⟩
    obtain ⟨a', ha', ea⟩ := key j a ha
    obtain ⟨b', hb', eb⟩ := key j' b hb
    rw [← eb]
    exact K.dis j j' a' b' g hne ha' hb' (by rw [ea]; exact hg)
  · have hm' : m ∈ rmsgs R := by
      rcases rmsgs_set hm with h1 | h1
      · exact List.mem_append.2 (.inl (List.mem_flatMap.2 ⟨l, get_mem HL.out, h1⟩))
      · exact h1
    exact hf.own (K.ms m hm') (fun g hg => no g _ (row_tag (K.ms m hm') hg) (by decide))
  · unfold absR shutA
    dsimp only
    rw [map_set_modify (fun l : RC => (l.ms.map (·.d), l.sh)) (fun x => (x.1, true)) _ _ _ _ HL.out rfl]
  · rcases hx with hx | hx | hx | hx | ⟨y, hy, hx⟩
    · exact .inl hx
    · exact .inr (.inl hx)
    · exact .inr (.inr (.inl hx))
    · exact .inr (.inr (.inr (.inl hx)))
    · rcases mem_set hy with rfl | hy
      · exact .inr (.inr (.inr (.inr ⟨l, get_mem HL.out, hx⟩)))
      · exact .inr (.inr (.inr (.inr ⟨y, hy, hx⟩)))
  · rcases hx with hx | ⟨y, hy, hx⟩
    · exact .inl hx
    · refine .inr ⟨y, ?_, hx⟩
      rcases rmsgs_set hy with h1 | h1
      · exact List.mem_append.2 (.inl (List.mem_flatMap.2 ⟨l, get_mem HL.out, h1⟩))
      · exact h1
set_option maxRecDepth 100000 in
theorem RWaiting_yes (w : World) (R : RS) (i : Nat) (l : RC) (h : ROk w R) (hl : R.ws[i]? = some l) : Calls Try.prog 63 #[.pointer (some ⟨R.nb, 0, none⟩), .int .i64 (i : Int)] w fun e w' => e = .returned (.tuple #[.int .i64 (l.ms.length : Int), .int .i64 0]) ∧ w' = w := by
  have hH := Ris_walk w R (i : Int) h
  rw [isR_nat hl] at hH
  have hi := (List.getElem?_eq_some_iff.1 hl).1
  obtain ⟨wb, wc, hwv, hwc, c1⟩ := h.ws_cell hl
  have c0 := h.net.cell (i := 3) rfl
  rw [hwv] at c0
  obtain ⟨la, lc, hlv⟩ := (h.rw l (get_mem hl)).shape
  rw [List.length_map] at hlv
  rw [hlv] at c1
  clear h
  go_enter Try.func63, Try.ntmps63
  go_wp2_with fail
  refine hH.mono ?_
  rintro e w1 ⟨rfl, rfl⟩
  dsimp only
  go_wp2
  go_ret2
  exact ⟨rfl, rfl⟩
set_option maxRecDepth 100000 in
theorem RWaiting_no (w : World) (R : RS) (z : Int) (h : ROk w R) (hz : isR R z = false) : Calls Try.prog 63 #[.pointer (some ⟨R.nb, 0, none⟩), .int .i64 z] w fun e w' => e = .returned (.tuple #[.int .i64 0, .int .i64 192]) ∧ w' = w := by
  have hH := Ris_walk w R z h
  rw [hz] at hH
  clear h
  go_enter Try.func63, Try.ntmps63
  go_wp2_with fail
  refine hH.mono ?_
  rintro e w1 ⟨rfl, rfl⟩
  dsimp only
  go_wp2
  go_ret2
  exact ⟨rfl, rfl⟩
set_option maxRecDepth 100000 in
theorem RPass_no (w : World) (R : RS) (z : Int) (hz : (decide (0 ≤ z) && decide (z ≤ 65536)) = false) : Calls Try.prog 60 #[.pointer (some ⟨R.nb, 0, none⟩), .int .i64 z] w fun e w' => e = .returned (.int .i64 1) ∧ w' = w := by
  have h1 : z < 0 ∨ (¬ z < 0 ∧ 65536 < z) := by
    simp at hz
    omega
  rcases h1 with h1 | ⟨h1, h2⟩
  · go_enter Try.func60, Try.ntmps60
    go_wp2
    go_ret
    exact ⟨rfl, rfl⟩
  · go_enter Try.func60, Try.ntmps60
    go_wp2
    go_ret
    exact ⟨rfl, rfl⟩
/-- a step by a leap -/
structure LpR (w wr : World) (R Rj : RS) (A : AN) (g : Nat) : Prop where
  st : RStp w.heap.size w wr R Rj A
  so : ASo A
  nw : A.now = R.now + g
  pl : Rj.pd.length ≤ R.pd.length
  sn : Rj.st = R.st
theorem LpR.start {w : World} {R : RS} (h : ROk w R) (k : ASo (absR R)) : LpR w w R R (absR R) 0 := ⟨RStp.refl h, k, rfl, Nat.le_refl _, rfl⟩
theorem LpR.now {w wr : World} {R Rj : RS} {A : AN} {g : Nat} (h : LpR w wr R Rj A g) : Rj.now = R.now + g := by
  rw [← h.nw, ← h.st.ab]; rfl
theorem LpR.leap {w wr w2 : World} {R Rj R2 : RS} {A : AN} {g t e : Nat} (h : LpR w wr R Rj A g) (ht : nxt Rj.pd e = t) (he : R.now + g < e) (s : RStp wr.heap.size wr w2 Rj R2 (reachA (absR Rj) t)) (hp : R2.pd.length ≤ Rj.pd.length) (hs : R2.st = Rj.st) :
    ∃ k, t = R.now + g + (k + 1) ∧ R.now + g + (k + 1) ≤ e ∧ (∀ p ∈ A.pd, A.now + (k + 1) ≤ p.1) ∧ LpR w w2 R R2 (reachA A (A.now + (k + 1))) (g + (k + 1)) := by
  obtain ⟨n1, n2, n3⟩ := nxt_facts Rj.pd e
  rw [ht] at n1 n2 n3
  have hab := h.st.ab
  have hpd : ∀ p ∈ Rj.pd, R.now + g < p.t := by
    have := absR_pd (R := Rj) (P := fun a _ => A.now < a) (by rw [hab]; exact fun p hp => (h.so.pd p hp).1)
    intro p hp
    have := this p hp
    rw [h.nw] at this
    exact this
  have h1 := n3 (R.now + g) hpd he
  obtain ⟨k, hk⟩ : ∃ k, t = R.now + g + (k + 1) := ⟨t - (R.now + g) - 1, by omega⟩
  have hge : ∀ p ∈ A.pd, t ≤ p.1 := by
    rw [← hab]
    intro p hp
    obtain ⟨q, hq, rfl⟩ := List.mem_map.1 (show p ∈ Rj.pd.map absP from hp)
    exact n2 q hq
  have et : A.now + (k + 1) = t := by rw [h.nw]; omega
  refine ⟨k, hk, by omega, by rw [et]; exact hge, ?_⟩
  rw [et]
  rw [hab] at s
  have s2 := s.low (N := w.heap.size) h.st.fr.size
  have := h.st.trans s2
  refine ⟨this, h.so.reach hge, ?_, Nat.le_trans hp h.pl, hs.trans h.sn⟩
  rw [reachA_now]
  omega
def rdI (w : World) (b : Nat) : Nat := match w.cell? ⟨b, 0, none⟩ with
  | some (.int _ z) => z.toNat
  | _ => 0
theorem LpR.rd {w wr : World} {R Rj : RS} {A : AN} {g : Nat} (h : LpR w wr R Rj A g) : rdI wr R.nb = R.now + g := by
  have := h.st.ok.net.cell (i := 0) rfl
  rw [h.st.nb, h.now] at this
  unfold rdI
  rw [this]
  exact Int.toNat_natCast _
set_option maxRecDepth 100000 in
set_option maxHeartbeats 1000000 in
theorem RPass_yes (w : World) (R : RS) (n : Nat) (h : ROk w R) (k : ASo (absR R)) (hn : n ≤ 65536) (hnow : R.now ≤ 2305843009213693952) (hbd : R.pd.length ≤ 1099511627776) :
    Calls Try.prog 60 #[.pointer (some ⟨R.nb, 0, none⟩), .int .i64 (n : Int)] w fun e w' => e = .returned (.int .i64 0) ∧ ∃ R', RStp w.heap.size w w' R R' (itA n (absR R)) ∧ R'.pd.length ≤ R.pd.length ∧ R'.st = R.st := by
  have c0 := h.net.cell (i := 0) rfl
  have h0z : ¬ (n : Int) < 0 := by omega
  have hnz : ¬ (65536 : Int) < (n : Int) := by omega
  have hw1 : IntKind.i64.wrap ((R.now : Int) + (n : Int)) = ((R.now + n : Nat) : Int) := by rw [IntKind.wrap_i64]; omega
  have HI := Hid.of (show ∃ Rj g, g ≤ n ∧ LpR w w R Rj (itA g (absR R)) g from ⟨R, 0, Nat.zero_le _, LpR.start h k⟩)
  clear h k
  go_enter Try.func60, Try.ntmps60
  go_wp2
  clear c0 hw1
  go_loopw [6] (fun _ wr => Hid (∃ Rj g, g ≤ n ∧ LpR w wr R Rj (itA g (absR R)) g)) (fun _ wr => R.now + n - rdI wr R.nb)
  case atStart => exact HI
  case round =>
    clear HI
    have hR := Hid.of hrel.out
    clear hrel
    obtain ⟨Rj, g, hg, hL⟩ := hR.out
    have c0 := hL.st.ok.net.cell (i := 0) rfl
    rw [hL.st.nb, hL.now] at c0
    have HL := Hid.of hL
    have HM := Hid.of hL.rd
    clear hL hR
    by_cases hlt : g < n
    · have hltz : ((R.now + g : Nat) : Int) < ((R.now + n : Nat) : Int) := by omega
      have hX := Rnext_walk wr Rj (R.now + n) HL.out.st.ok (by have := HL.out.pl; omega)
      rw [HL.out.st.nb] at hX
      go_wp2_with fail
      refine hX.mono ?_
      rintro e w1 ⟨rfl, h9⟩
      obtain rfl := h9.symm
      clear h9 hX
      obtain ⟨t, ht⟩ : ∃ t, nxt Rj.pd (R.now + n) = t := ⟨_, rfl⟩
      have HT := Hid.of ht
      rw [ht]
      clear ht
      have hY := Rreach_walk wr Rj t HL.out.st.ok (absR_pd (P := fun _ i => i < Rj.ws.length) (by rw [HL.out.st.ab]; intro p hp; have := (HL.out.so.pd p hp).2; rw [← HL.out.st.ab, absR_len] at this; exact this)) (by have := HL.out.pl; omega)
      rw [HL.out.st.nb] at hY
      dsimp only
      go_wp2_with fail
      refine hY.mono ?_
      rintro e w2 ⟨rfl, R2, h2, hp2, hs2⟩
      obtain ⟨q, hq1, hq2, hq3, hL2⟩ := HL.out.leap HT.out (by omega) h2 hp2 hs2
      have hL3 : LpR w w2 R R2 (itA (g + (q + 1)) (absR R)) (g + (q + 1)) := by
        rw [itA_add, it_leap q _ hq3]
        exact hL2
      have HL2 := Hid.of (show ∃ Rj g, g ≤ n ∧ LpR w w2 R Rj (itA g (absR R)) g from ⟨R2, g + (q + 1), by omega, hL3⟩)
      have HM2 := Hid.of hL3.rd
      clear hY h2 hp2 hs2 hL2 hL3 hq1 hq2 hq3
      dsimp only
      go_wp2
      go_roundw
      case rel => exact HL2
      case measure =>
        have h1 := HM.out
        have h2 := HM2.out
        omega
    · have hltz : ¬ ((R.now + g : Nat) : Int) < ((R.now + n : Nat) : Int) := by omega
      obtain rfl : g = n := by omega
      go_wp2
      go_ret
      exact ⟨rfl, Rj, HL.out.st, HL.out.pl, HL.out.sn⟩
end Go.Proofs.Ytdlfkdehfenemaa
namespace Go.Proofs.Ytdlfkdehfenemaa
open Go.RowKit Go.Conc TextNum
set_option maxRecDepth 100000 in
set_option maxHeartbeats 2000000 in
theorem Rwait_walk (w : World) (R : RS) (v : Value) (is : List Nat) (n : Nat) (h : ROk w R) (k : ASo (absR R)) (hL : LnR w v is) (hv : ∀ g, v.ownBlock = some g → ¬ rown R g ∧ g < w.heap.size) (hlt : ∀ i ∈ is, i < R.ws.length) (hlen : is.length ≤ 64) (hn : n ≤ 65536) (hnow : R.now ≤ 2305843009213693952) (hbd : R.pd.length ≤ 1099511627776) :
    Calls Try.prog 79 #[.pointer (some ⟨R.nb, 0, none⟩), v, .int .i64 (n : Int)] w fun e w' => ∃ mv R', e = .returned (.tuple #[.int .i64 ((awA n (absR R) is).1.1 : Int), mv, .int .i64 (awA n (absR R) is).1.2.2]) ∧ Ow w' 0 mv (awA n (absR R) is).1.2.1 ∧ RStp w.heap.size w w' R R' (awA n (absR R) is).2 ∧ R'.pd.length ≤ R.pd.length ∧ R'.st = R.st := by
  have c0 := h.net.cell (i := 0) rfl
  have hw1 : IntKind.i64.wrap ((R.now : Int) + (n : Int)) = ((R.now + n : Nat) : Int) := by rw [IntKind.wrap_i64]; omega
  have HI := Hid.of (show ∃ Rj A g, g ≤ n ∧ LpR w w R Rj A g ∧ awA (n - g) A is = awA n (absR R) is from ⟨R, _, 0, Nat.zero_le _, LpR.start h k, rfl⟩)
  have HV := Hid.of hv
  have HLT := Hid.of hlt
  have HLN := Hid.of hL
  obtain ⟨W, hW⟩ : ∃ W, awA n (absR R) is = W := ⟨_, rfl⟩
  rw [hW] at HI ⊢
  clear h k hL hv hlt hW
  go_enter Try.func79, Try.ntmps79
  go_wp2
  clear c0 hw1
  go_loopw [10, 11, 12, 13] (fun _ _ _ _ wr => Hid (∃ Rj A g, g ≤ n ∧ LpR w wr R Rj A g ∧ awA (n - g) A is = W)) (fun _ _ _ _ wr => R.now + n - rdI wr R.nb)
  case atStart => exact HI
  case round =>
    clear HI
    have hR := Hid.of hrel.out
    clear hrel
    obtain ⟨Rj, A, g, hg, hL, hA⟩ := hR.out
    have c0 := hL.st.ok.net.cell (i := 0) rfl
    rw [hL.st.nb, hL.now] at c0
    have HL := Hid.of hL
    have HM := Hid.of hL.rd
    have HA := Hid.of hA
    have hvj : ∀ g, v.ownBlock = some g → ¬ rown Rj g := fun g hg e => by
      have h1 := HV.out g hg
      rcases HL.out.st.no g e with h2 | h2
      · exact h1.1 h2
      · omega
    have HVJ := Hid.of hvj
    have HLJ := Hid.of (HLN.out.fr hL.st.fr (fun g hg => (HV.out g hg).1))
    have HTJ := Hid.of (show ∀ i ∈ is, i < Rj.ws.length from fun i hi => by rw [hL.st.ln]; exact HLT.out i hi)
    have hT := Rtake_walk wr Rj v is hL.st.ok HLJ.out hvj HTJ.out hlen
    rw [hL.st.nb] at hT
    clear hL hA hR hvj
    go_wp2_with fail
    refine hT.mono ?_
    rintro e w1 ⟨z, mv, rfl, hk⟩
    clear hT
    rcases hk with ⟨rfl, rfl, hf, hu⟩ | ⟨i, rfl, hf, R', hs, hmo, hpl, hsn, hms, hfv⟩
    · have HF := Hid.of hf
      have HU := Hid.of hu
      have c1 := hu.cell c0
      have HO := Hid.of (Rover_walk w1 Rj v is (HL.out.st.ok.up hu) (HLJ.out.up hu) HTJ.out hlen (by have := HL.out.pl; omega))
      rw [HL.out.st.nb] at HO
      clear hf hu c0
      dsimp only
      go_wp2_with fail
      refine HO.out.mono ?_
      rintro e w2 ⟨rfl, u2⟩
      have HU2 := Hid.of u2
      have c2 := u2.cell c1
      clear u2 c1 HO
      rw [HL.out.st.ab] at HF
      by_cases he : is.all (endA A) = true
      · have hea : awA (n - g) A is = ((0, [], 191), A) := awA_end HF.out he
        have HE := Hid.of (show W = ((0, [], 191), A) by rw [← HA.out]; exact hea)
        rw [HL.out.st.ab, he]
        clear hea he
        dsimp only
        go_wp2
        go_ret3
        rw [HE.out]
        exact ⟨nilS, Rj, rfl, World.ownsRow_nil _ _ _ _, HL.out.st.up' (HU.out.trans HU2.out), HL.out.pl, HL.out.sn⟩
      · have hef : is.all (endA A) = false := by simpa using he
        have HE := Hid.of he
        rw [HL.out.st.ab, hef]
        clear he hef
        dsimp only
        by_cases hlt : g < n
        · have hltz : (((R.now + g : Nat) : Int) == ((R.now + n : Nat) : Int)) = false := by simp; omega
          have hltz2 : ¬ ((R.now + g : Nat) : Int) = ((R.now + n : Nat) : Int) := by omega
          have HK := Hid.of ((HL.out.st.ok.up HU.out).up HU2.out)
          have hX := Rnext_walk w2 Rj (R.now + n) HK.out (by have := HL.out.pl; omega)
          rw [HL.out.st.nb] at hX
          go_wp2_with fail
          refine hX.mono ?_
          rintro e w3 ⟨rfl, h9⟩
          obtain rfl := h9.symm
          clear h9 hX
          obtain ⟨t, ht⟩ : ∃ t, nxt Rj.pd (R.now + n) = t := ⟨_, rfl⟩
          have HT := Hid.of ht
          rw [ht]
          clear ht
          have hY := Rreach_walk w2 Rj t HK.out (absR_pd (P := fun _ i => i < Rj.ws.length) (by rw [HL.out.st.ab]; intro p hp; have := (HL.out.so.pd p hp).2; rw [← HL.out.st.ab, absR_len] at this; exact this)) (by have := HL.out.pl; omega)
          rw [HL.out.st.nb] at hY
          dsimp only
          go_wp2_with fail
          refine hY.mono ?_
          rintro e w4 ⟨rfl, R2, h2, hp2, hs2⟩
          obtain ⟨q, hq1, hq2, hq3, hL2⟩ := HL.out.leap HT.out (by omega) ((h2.base (HU.out.trans HU2.out)).low (HU.out.trans HU2.out).size) hp2 hs2
          have hA2 : awA (n - (g + (q + 1))) (reachA A (A.now + (q + 1))) is = W := by
            rw [← HA.out, aw_leap is q (n - g) A (by omega) HF.out HE.out hq3]
            congr 1
            omega
          have HL2 := Hid.of (show ∃ Rj A g, g ≤ n ∧ LpR w w4 R Rj A g ∧ awA (n - g) A is = W from ⟨R2, _, g + (q + 1), by omega, hL2, hA2⟩)
          have HM2 := Hid.of hL2.rd
          clear hY h2 hp2 hs2 hL2 hq1 hq2 hq3 hA2 c2
          dsimp only
          go_wp2
          go_roundw
          case rel => exact HL2
          case measure =>
            have h1 := HM.out
            have h2 := HM2.out
            omega
        · obtain rfl : g = n := by omega
          have hltz : (((R.now + g : Nat) : Int) == ((R.now + g : Nat) : Int)) = true := by simp
          have hea : awA (g - g) A is = ((0, [], 190), A) := by rw [Nat.sub_self]; exact awA_out HF.out HE.out
          have HE2 := Hid.of (show W = ((0, [], 190), A) by rw [← HA.out]; exact hea)
          clear hea
          go_wp2
          go_ret3
          rw [HE2.out]
          exact ⟨nilS, Rj, rfl, World.ownsRow_nil _ _ _ _, HL.out.st.up' (HU.out.trans HU2.out), HL.out.pl, HL.out.sn⟩
    · have hiz : (0 : Int) ≤ (i : Int) := by omega
      have hea : awA (n - g) A is = ((i, firstA A i, 0), popA A i) := by
        rw [HL.out.st.ab] at hf
        exact awA_some hf
      have HE2 := Hid.of (show W = ((i, firstA A i, 0), popA A i) by rw [← HA.out]; exact hea)
      rw [HL.out.st.ab] at hs hmo
      have HS := Hid.of (hs.re (N := w.heap.size) hms hfv)
      have HMO := Hid.of hmo
      have HPL := Hid.of (And.intro (Nat.le_trans hpl HL.out.pl) (hsn.trans HL.out.sn))
      clear hea hs hmo hpl hsn hms hfv hf c0
      obtain ⟨ma, mc, rfl, _⟩ := Ow.sb HMO.out
      dsimp only
      go_wp2
      go_ret3
      rw [HE2.out]
      exact ⟨_, R', rfl, HMO.out, HL.out.st.trans HS.out, HPL.out⟩
set_option maxRecDepth 100000 in
set_option maxHeartbeats 1000000 in
theorem RWait_no (w : World) (R : RS) (z t : Int) (h : ROk w R) (hz : isR R z = false) : Calls Try.prog 70 #[.pointer (some ⟨R.nb, 0, none⟩), .int .i64 z, .int .i64 t] w fun e w' => e = .returned (.tuple #[nilS, .int .i64 192]) ∧ w' = w := by
  have hH := Ris_walk w R z h
  rw [hz] at hH
  clear h
  go_enter Try.func70, Try.ntmps70
  go_wp2_with fail
  refine hH.mono ?_
  rintro e w1 ⟨rfl, rfl⟩
  dsimp only
  go_wp2
  go_ret2
  exact ⟨rfl, rfl⟩
set_option maxRecDepth 100000 in
set_option maxHeartbeats 1000000 in
theorem RWait_arg (w : World) (R : RS) (z t : Int) (h : ROk w R) (hz : isR R z = true) (ht : (decide (0 ≤ t) && decide (t ≤ 65536)) = false) : Calls Try.prog 70 #[.pointer (some ⟨R.nb, 0, none⟩), .int .i64 z, .int .i64 t] w fun e w' => e = .returned (.tuple #[nilS, .int .i64 1]) ∧ w' = w := by
  have hH := Ris_walk w R z h
  rw [hz] at hH
  clear h
  have h1 : t < 0 ∨ (¬ t < 0 ∧ 65536 < t) := by
    simp at ht
    omega
  rcases h1 with h1 | ⟨h1, h2⟩
  · go_enter Try.func70, Try.ntmps70
    go_wp2_with fail
    refine hH.mono ?_
    rintro e w1 ⟨rfl, rfl⟩
    dsimp only
    go_wp2
    go_ret2
    exact ⟨rfl, rfl⟩
  · go_enter Try.func70, Try.ntmps70
    go_wp2_with fail
    refine hH.mono ?_
    rintro e w1 ⟨rfl, rfl⟩
    dsimp only
    go_wp2
    go_ret2
    exact ⟨rfl, rfl⟩
set_option maxRecDepth 100000 in
set_option maxHeartbeats 1000000 in
theorem RWait_yes (w : World) (R : RS) (i n : Nat) (l : RC) (h : ROk w R) (k : ASo (absR R)) (hl : R.ws[i]? = some l) (hn : n ≤ 65536) (hnow : R.now ≤ 2305843009213693952) (hbd : R.pd.length ≤ 1099511627776) :
    Calls Try.prog 70 #[.pointer (some ⟨R.nb, 0, none⟩), .int .i64 (i : Int), .int .i64 (n : Int)] w fun e w' => ∃ mv, e = .returned (.tuple #[mv, .int .i64 (awA n (absR R) [i]).1.2.2]) ∧ Ow w' 0 mv (awA n (absR R) [i]).1.2.1 ∧ ∃ R', RStp w.heap.size w w' R R' (awA n (absR R) [i]).2 ∧ R'.pd.length ≤ R.pd.length ∧ R'.st = R.st := by
  have hH := Ris_walk w R (i : Int) h
  rw [isR_nat hl] at hH
  have hi := (List.getElem?_eq_some_iff.1 hl).1
  have h0z : ¬ (n : Int) < 0 := by omega
  have hnz : ¬ (65536 : Int) < (n : Int) := by omega
  have HU := Hid.of ((Up.refl w).alloc (.cells #[.int .i64 (i : Int)] 3))
  have HA := Hid.of (at_new w 3 [.int .i64 (i : Int)])
  have HN := Hid.of h
  have HK := Hid.of k
  have HSz := Hid.of (alloc_size w (.cells #[.int .i64 (i : Int)] 3))
  clear h k
  go_enter Try.func70, Try.ntmps70
  go_wp2_with fail
  refine hH.mono ?_
  rintro e w1 ⟨rfl, rfl⟩
  clear hH
  dsimp only
  go_wp2_with fail
  generalize w1.alloc (.cells #[.int .i64 (i : Int)] 3) = W1 at *
  have hLn : LnR W1 (.slice (some ⟨w1.heap.size, 0, none⟩) 1 1) [i] := ⟨w1.heap.size, 0, 1, rfl, by simp, fun j x hj => by
    cases j with
    | zero =>
      obtain rfl : i = x := by simpa using hj
      exact HA.out.cell (i := 0) rfl
    | succ j => simp at hj⟩
  refine (Rwait_walk W1 R _ [i] n (HN.out.up HU.out) HK.out hLn (fun g hg => ?_) (fun x hx => ?_) (by simp) hn hnow hbd).mono ?_
  · obtain rfl : w1.heap.size = g := Option.some.inj hg
    exact ⟨fun e => Nat.lt_irrefl _ (HN.out.lt e), by have := HSz.out; omega⟩
  · obtain rfl := List.mem_singleton.1 hx
    exact hi
  rintro e w2 ⟨mv, R', rfl, ho, hs, hp⟩
  have HO := Hid.of ho
  have HS := Hid.of hs
  have HP := Hid.of hp
  clear ho hs hp
  obtain ⟨ma, mc, rfl, _⟩ := Ow.sb HO.out
  generalize hR : awA n (absR R) [i] = Q at *
  obtain ⟨⟨q1, q2, q3⟩, q4⟩ := Q
  dsimp only at HO HS ⊢
  go_wp2
  go_ret2
  exact ⟨_, rfl, HO.out, R', (HS.out.base HU.out).low (by have := HU.out.size; omega), HP.out⟩
end Go.Proofs.Ytdlfkdehfenemaa
namespace Go.Proofs.Ytdlfkdehfenemaa
open Go.RowKit Go.Conc TextNum
/-! ### Any, of both sides -/
/-- what is wrong with a list of lanes and a number of ticks -/
def anE (n : Nat) (zs : List Int) (t : Int) : Int := if 64 < zs.length then 2 else if zs.all (fun z => decide (0 ≤ z) && decide (z < (n : Int))) then (if zs = [] ∨ ¬ zs.Nodup ∨ t < 0 ∨ 65536 < t then 1 else 0) else 192
theorem mxl_ge : ∀ {l : List Nat} {x : Nat}, x ∈ l → x ≤ mxl l := by
  have key : ∀ (l : List Nat) (m : Nat), m ≤ l.foldl max m ∧ ∀ x ∈ l, x ≤ l.foldl max m := by
    intro l
    induction l with
    | nil => intro m; exact ⟨Nat.le_refl _, fun x hx => (by cases hx)⟩
    | cons y r ih =>
      intro m
      obtain ⟨h1, h2⟩ := ih (max m y)
      refine ⟨Nat.le_trans (Nat.le_max_left m y) h1, fun x hx => ?_⟩
      rcases List.mem_cons.1 hx with rfl | hx
      · exact Nat.le_trans (Nat.le_max_right m x) h1
      · exact h2 x hx
  exact fun {l x} h => (key l 0).2 x h
theorem nodup_count {zs : List Int} : zs.Nodup ↔ ∀ a, zs.count a ≤ 1 := by
  induction zs with
  | nil => simp
  | cons z r ih =>
    rw [List.nodup_cons, ih]
    constructor
    · rintro ⟨h1, h2⟩ a
      rw [List.count_cons]
      by_cases e : z = a
      · subst e
        rw [List.count_eq_zero_of_not_mem h1]
        simp
      · have := h2 a
        simp [e]
        omega
    · intro h
      refine ⟨fun hm => ?_, fun a => ?_⟩
      · have h1 := h z
        have h2 := List.count_pos_iff.2 hm
        rw [List.count_cons_self] at h1
        omega
      · have h1 := h a
        rw [List.count_cons] at h1
        omega
theorem lnE_any {S : NS} (k : SOk S) (zs : List Int) {t : Int} (ht : 0 ≤ t ∧ t ≤ 65536) : lnE S zs = anE S.ls.length zs t := by
  unfold lnE anE
  have e : zs.all (isL S) = zs.all (fun z => decide (0 ≤ z) && decide (z < (S.ls.length : Int))) := rfl
  rw [e]
  by_cases h1 : 64 < zs.length
  · rw [if_pos h1, if_pos h1]
  · rw [if_neg h1, if_neg h1]
    by_cases h2 : zs.all (fun z => decide (0 ≤ z) && decide (z < (S.ls.length : Int))) = true
    · rw [if_pos h2, if_pos h2]
      have hm : 1 < mxl (cnts zs) ↔ ¬ zs.Nodup := by
        rw [nodup_count]
        constructor
        · intro h hc
          have : mxl (cnts zs) ≤ 1 := mxl_le fun x hx => by
            obtain ⟨i, _, rfl⟩ := List.mem_map.1 hx
            exact hc _
          omega
        · intro h
          obtain ⟨a, ha⟩ := Classical.not_forall.1 h
          have ham : a ∈ zs := List.count_pos_iff.1 (by omega)
          have h3 := List.all_eq_true.1 h2 a ham
          simp only [Bool.and_eq_true, decide_eq_true_eq] at h3
          have h4 := k.n
          have : zs.count a ∈ cnts zs := List.mem_map.2 ⟨a.toNat, List.mem_range.2 (by omega), by rw [show ((a.toNat : Nat) : Int) = a by omega]⟩
          have := mxl_ge this
          omega
      by_cases h5 : zs = []
      · subst h5
        simp
      · have h6 : zs.isEmpty = false := by cases zs with
          | nil => exact absurd rfl h5
          | cons => rfl
        rw [h6, Bool.false_or]
        by_cases h7 : zs.Nodup
        · have h8 : ¬ 1 < mxl (cnts zs) := fun h => (hm.1 h) h7
          rw [if_neg (by simpa using h8), if_neg]
          rintro (h | h | h | h)
          · exact h5 h
          · exact h h7
          · omega
          · omega
        · have h8 := hm.2 h7
          rw [if_pos (by simpa using h8), if_pos (.inr (.inl h7))]
    · rw [if_neg h2, if_neg h2]
theorem lnE_lo {S : NS} {zs : List Int} (h : lnE S zs ≠ 0) (k : SOk S) (t : Int) : lnE S zs = anE S.ls.length zs t := by
  have h1 := lnE_any k zs (t := 0) (by omega)
  rw [h1] at h ⊢
  unfold anE at h ⊢
  split
  · rfl
  · rename_i h2
    rw [if_neg h2] at h
    split
    · rename_i h3
      rw [if_pos h3] at h
      split at h
      · rename_i h4
        rw [if_pos h4, if_pos]
        rcases h4 with h4 | h4 | h4 | h4
        · exact .inl h4
        · exact .inr (.inl h4)
        · omega
        · omega
      · exact absurd rfl h
    · rfl
theorem anE_bad {n : Nat} {zs : List Int} {t : Int} (h0 : anE n zs 0 = 0) (ht : ¬ (0 ≤ t ∧ t ≤ 65536)) : anE n zs t = 1 := by
  unfold anE at h0 ⊢
  split at h0
  · cases h0
  · rename_i h1
    rw [if_neg h1]
    split at h0
    · rename_i h2
      rw [if_pos h2, if_pos]
      exact .inr (.inr (by omega))
    · cases h0
theorem anE_ok {n : Nat} {zs : List Int} {t : Int} (h : anE n zs t = 0) : zs.length ≤ 64 ∧ zs ≠ [] ∧ zs.Nodup ∧ 0 ≤ t ∧ t ≤ 65536 ∧ ∃ is : List Nat, zs = is.map (fun (i : Nat) => (i : Int)) ∧ ∀ i ∈ is, i < n := by
  unfold anE at h
  split at h
  · cases h
  · rename_i h1
    split at h
    · rename_i h2
      split at h
      · cases h
      · rename_i h3
        simp only [not_or, Classical.not_not] at h3
        refine ⟨by omega, h3.1, h3.2.1, by omega, by omega, zs.map Int.toNat, ?_, fun i hi => ?_⟩
        · rw [List.map_map]
          have h4 : ∀ z ∈ zs, ((fun (i : Nat) => (i : Int)) ∘ Int.toNat) z = z := fun z hz => by
            have := List.all_eq_true.1 h2 z hz
            simp only [Bool.and_eq_true, decide_eq_true_eq] at this
            show ((z.toNat : Nat) : Int) = z
            omega
          rw [List.map_congr_left h4]
          simp
        · obtain ⟨z, hz, rfl⟩ := List.mem_map.1 hi
          have := List.all_eq_true.1 h2 z hz
          simp only [Bool.and_eq_true, decide_eq_true_eq] at this
          omega
    · cases h
theorem nodup_map {is : List Nat} (h : (is.map fun (i : Nat) => (i : Int)).Nodup) : ∀ i, is.count i ≤ 1 := fun i => by
  have h1 := nodup_count.1 h (i : Int)
  have e : ∀ l : List Nat, (l.map fun (i : Nat) => (i : Int)).count (i : Int) = l.count i := by
    intro l
    induction l with
    | nil => rfl
    | cons y r ih =>
      rw [List.map_cons, List.count_cons, List.count_cons, ih]
      congr 1
      by_cases e : y = i
      · simp [e]
      · have : ¬ (y : Int) = (i : Int) := by omega
        simp [e, this]
  rw [e] at h1
  exact h1
/-! the program's -/
set_option maxRecDepth 100000 in
set_option maxHeartbeats 1000000 in
theorem Any_err (w : World) (S : NS) (v : Value) (zs : List Int) (t : Int) (h : NOk w S) (k : SOk S) (hI : IL w v zs) (he : anE S.ls.length zs t ≠ 0) :
    Calls Try.prog 20 #[.pointer (some ⟨S.nb, 0, none⟩), v, .int .i64 t] w fun e w' => e = .returned (.tuple #[.int .i64 0, nilS, .int .i64 (anE S.ls.length zs t)]) ∧ Up w w' := by
  have hE := lanesError_walk w S v zs h k hI
  by_cases h0 : lnE S zs = 0
  · have htt : ¬ (0 ≤ t ∧ t ≤ 65536) := fun ht => he (by rw [← lnE_any k zs ht]; exact h0)
    have hbad : anE S.ls.length zs t = 1 := anE_bad (by rw [← lnE_any k zs (t := 0) (by omega)]; exact h0) htt
    have hmp : (decide (0 ≤ t) && decide (t ≤ 65536)) = false := by simp; omega
    have hM := fun w => mayPass_walk w t
    rw [hmp] at hM
    rw [h0] at hE
    rw [hbad]
    clear h k hI he h0 htt hbad hmp
    go_enter Try.func20, Try.ntmps20
    go_wp2_with fail
    refine hE.mono ?_
    rintro e w1 ⟨rfl, u1⟩
    have HU := Hid.of u1
    clear hE u1
    dsimp only
    go_wp2_with fail
    refine (hM w1).mono ?_
    rintro e w9 ⟨rfl, h9⟩
    obtain rfl := h9.symm
    clear h9 hM
    dsimp only
    go_wp2
    go_ret3
    exact ⟨rfl, HU.out⟩
  · have hlo := lnE_lo h0 k t
    rw [← hlo] at he ⊢
    obtain ⟨q, hq⟩ : ∃ q, lnE S zs = q := ⟨_, rfl⟩
    rw [hq] at hE he ⊢
    have hqz : (q == 0) = false := by simpa using he
    have hqz2 : (q != 0) = true := by simpa using he
    clear h k hI hlo h0 hq
    go_enter Try.func20, Try.ntmps20
    go_wp2_with fail
    refine hE.mono ?_
    rintro e w1 ⟨rfl, u1⟩
    have HU := Hid.of u1
    clear hE u1
    dsimp only
    go_wp2
    go_ret3
    exact ⟨rfl, HU.out⟩
end Go.Proofs.Ytdlfkdehfenemaa
namespace Go.Proofs.Ytdlfkdehfenemaa
open Go.RowKit Go.Conc TextNum
theorem IL.up {w w' : World} {v : Value} {zs : List Int} (h : IL w v zs) (u : Up w w') : IL w' v zs := by
  obtain ⟨a, c, rfl, hc, hx⟩ := h
  refine ⟨a, c, rfl, hc, fun j z hz => ?_⟩
  obtain ⟨b, o, e, hcl⟩ := hx j z hz
  exact ⟨b, o, e, u.cell hcl⟩
theorem IL.lnr {w : World} {v : Value} {is : List Nat} (h : IL w v (is.map fun (i : Nat) => (i : Int))) (hne : is ≠ []) : LnR w v is := by
  obtain ⟨a, c, rfl, hc, hx⟩ := h
  rw [List.length_map] at *
  obtain ⟨i0, r, rfl⟩ : ∃ i0 r, is = i0 :: r := by
    cases is with
    | nil => exact absurd rfl hne
    | cons a b => exact ⟨a, b, rfl⟩
  obtain ⟨b, o, rfl, _⟩ := hx 0 _ rfl
  refine ⟨b, o, c, rfl, hc, fun j i hj => ?_⟩
  obtain ⟨b', o', e, hcl⟩ := hx j (i : Int) (by rw [List.getElem?_map, hj]; rfl)
  injection e with e
  injection e with e1 e2 _
  subst e1 e2
  exact hcl
/-- what the document's Any answers -/
def RAN (w w' : World) (R : RS) (zs : List Int) (t : Int) (e : Ending) : Prop :=
  (anE R.ws.length zs t ≠ 0 ∧ e = .returned (.tuple #[.int .i64 0, nilS, .int .i64 (anE R.ws.length zs t)]) ∧ Up w w') ∨
  (anE R.ws.length zs t = 0 ∧ ∃ (is : List Nat) (n : Nat) (mv : Value) (R' : RS), zs = is.map (fun (i : Nat) => (i : Int)) ∧ t = (n : Int) ∧ e = .returned (.tuple #[.int .i64 ((awA n (absR R) is).1.1 : Int), mv, .int .i64 (awA n (absR R) is).1.2.2]) ∧ Ow w' 0 mv (awA n (absR R) is).1.2.1 ∧ RStp w.heap.size w w' R R' (awA n (absR R) is).2 ∧ R'.pd.length ≤ R.pd.length ∧ R'.st = R.st)
theorem RAN.bad {w w' : World} {R : RS} {zs : List Int} {t q : Int} (h : anE R.ws.length zs t = q) (h0 : q ≠ 0) (u : Up w w') : RAN w w' R zs t (.returned (.tuple #[.int .i64 0, nilS, .int .i64 q])) := .inl ⟨by rw [h]; exact h0, by rw [h], u⟩
theorem nodup_snoc {l : List Int} {j : Nat} (hj : j < l.length) (h : (l.take j).Nodup) (hn : ∀ x ∈ l.take j, x ≠ l[j]) : (l.take (j + 1)).Nodup := by
  rw [List.take_succ_eq_append_getElem hj, List.nodup_append]
  refine ⟨h, by simp, fun a ha b hb => ?_⟩
  obtain rfl := List.mem_singleton.1 hb
  exact hn a ha
set_option maxRecDepth 100000 in
set_option maxHeartbeats 4000000 in
theorem RAny_walk (w : World) (R : RS) (v : Value) (zs : List Int) (t : Int) (h : ROk w R) (k : ASo (absR R)) (hI : IL w v zs) (hv : zs ≠ [] → ∀ g, v.ownBlock = some g → ¬ rown R g ∧ g < w.heap.size) (hnow : R.now ≤ 2305843009213693952) (hbd : R.pd.length ≤ 1099511627776) :
    Calls Try.prog 72 #[.pointer (some ⟨R.nb, 0, none⟩), v, .int .i64 t] w fun e w' => RAN w w' R zs t e := by
  obtain ⟨a, c, rfl, hc, _⟩ := id hI
  have HIL := Hid.of hI
  have HN := Hid.of h
  have HK := Hid.of k
  have HV := Hid.of hv
  obtain ⟨n, hn⟩ : ∃ n, zs.length = n := ⟨_, rfl⟩
  have HNN := Hid.of (And.intro hn trivial)
  rw [hn] at hc HV ⊢
  clear h k hI hn hv
  by_cases h64 : 64 < n
  · have h64z : (64 : Int) < (n : Int) := by omega
    have HE := Hid.of (show anE R.ws.length zs t = 2 by unfold anE; rw [if_pos (by rw [HNN.out.1]; exact h64)])
    clear h64
    go_enter Try.func72, Try.ntmps72
    go_wp2
    go_ret3
    exact RAN.bad HE.out (by decide) (Up.refl _)
  · have h64z : ¬ (64 : Int) < (n : Int) := by omega
    have H64 := Hid.of (show ¬ 64 < zs.length by rw [HNN.out.1]; exact h64)
    go_enter Try.func72, Try.ntmps72
    go_wp2
    go_loopw [9, 10] (fun v9 _ wr => ∃ j : Nat, v9 = .int .i64 (j : Int) ∧ j ≤ n ∧ Hid ((zs.take j).all (isR R) = true ∧ wr = w)) (fun v9 _ _ => n - (intOf v9).toNat)
    case atStart => exact ⟨0, rfl, by omega, Hid.of ⟨rfl, rfl⟩⟩
    case round =>
      obtain ⟨j, rfl, hj, hR⟩ := hrel
      have HR := Hid.of hR.out.1
      obtain rfl := hR.out.2.symm
      clear hR
      by_cases hlt : j < n
      · have hltz : (j : Int) < (n : Int) := by omega
        have hjl : j < zs.length := by rw [HNN.out.1]; exact hlt
        obtain ⟨a1, c1, e1, hc1, hx⟩ := HIL.out
        obtain ⟨z, hz⟩ : ∃ z, zs[j] = z := ⟨_, rfl⟩
        obtain ⟨b, o, ea, hcl⟩ := hx j z (by rw [List.getElem?_eq_getElem hjl, hz])
        rw [HNN.out.1] at e1
        injection e1 with e1 e2 e3
        clear e2
        subst e1
        subst e3
        subst ea
        have hcz : (n : Int) ≤ (c : Int) := by omega
        have hjw : IntKind.i64.wrap ((j : Int) + 1) = (j : Int) + 1 := by rw [IntKind.wrap_i64]; omega
        have HS := Hid.of (Ris_walk w R z HN.out)
        have HTK := Hid.of (And.intro (show zs.take (j + 1) = zs.take j ++ [z] by rw [List.take_succ_eq_append_getElem hjl, hz]) trivial)
        have HZM := Hid.of (show z ∈ zs by rw [← hz]; exact List.getElem_mem hjl)
        clear hx hz hjl hc1
        go_wp2_with fail
        refine HS.out.mono ?_
        rintro e w1 ⟨rfl, h9⟩
        obtain rfl := h9.symm
        clear h9 HS
        by_cases hb : isR R z = true
        · have HR2 := Hid.of (show (zs.take (j + 1)).all (isR R) = true by rw [HTK.out.1, List.all_append, HR.out]; simp [hb])
          rw [hb]
          clear hb hcl
          dsimp only
          go_wp2
          go_roundw
          case rel => exact ⟨j + 1, by simp, by omega, Hid.of ⟨HR2.out, trivial⟩⟩
          case measure => simp [intOf]; omega
        · have hb : isR R z = false := by simpa using hb
          have HE := Hid.of (show anE R.ws.length zs t = 192 by
            unfold anE
            rw [if_neg H64.out, if_neg]
            intro h
            have := List.all_eq_true.1 h z HZM.out
            unfold isR at hb
            rw [hb] at this
            cases this)
          rw [hb]
          clear hb hcl
          dsimp only
          go_wp2
          go_ret3
          exact RAN.bad HE.out (by decide) (Up.refl _)
      · have hltz : ¬ (j : Int) < (n : Int) := by omega
        obtain rfl : j = n := by omega
        have HALL := Hid.of (show zs.all (isR R) = true by
          have := HR.out
          rw [List.take_of_length_le (by rw [HNN.out.1]; exact Nat.le_refl _)] at this
          exact this)
        clear HR hltz
        go_wp2
        go_loopw [11, 12] (fun v11 _ wr => ∃ i : Nat, v11 = .int .i64 (i : Int) ∧ i ≤ j ∧ Hid ((zs.take i).Nodup ∧ Up w wr)) (fun v11 _ _ => j - (intOf v11).toNat)
        case atStart => exact ⟨0, rfl, by omega, Hid.of ⟨by simp, Up.refl _⟩⟩
        case round =>
          obtain ⟨i, rfl, hi, hR⟩ := hrel
          have HR := Hid.of hR.out
          clear hR
          by_cases hlt : i < j
          · have hltz : (i : Int) < (j : Int) := by omega
            go_wp2
            go_loopw [12] (fun v12 wr => ∃ q : Nat, v12 = .int .i64 (q : Int) ∧ q ≤ i ∧ Hid ((∀ x ∈ zs.take q, some x ≠ zs[i]?) ∧ Up w wr)) (fun v12 _ => i - (intOf v12).toNat)
            case atStart => exact ⟨0, rfl, by omega, Hid.of ⟨by simp, HR.out.2⟩⟩
            case round =>
              obtain ⟨q, rfl, hq, hQ⟩ := hrel
              have HQ := Hid.of hQ.out
              clear hQ
              by_cases hqi : q < i
              · have hqz : (q : Int) < (i : Int) := by omega
                have hil : i < zs.length := by rw [HNN.out.1]; exact hlt
                have hql : q < zs.length := by omega
                obtain ⟨a1, c1, e1, hc1, hx⟩ := HIL.out.up HQ.out.2
                obtain ⟨z1, hz1⟩ : ∃ z, zs[i] = z := ⟨_, rfl⟩
                obtain ⟨z2, hz2⟩ : ∃ z, zs[q] = z := ⟨_, rfl⟩
                obtain ⟨b, o, ea, hcl1⟩ := hx i z1 (by rw [List.getElem?_eq_getElem hil, hz1])
                obtain ⟨b', o', ea', hcl2⟩ := hx q z2 (by rw [List.getElem?_eq_getElem hql, hz2])
                rw [HNN.out.1] at e1
                injection e1 with e1 e2 e3
                clear e2
                subst e1
                subst e3
                rw [ea] at ea'
                injection ea' with ea'
                injection ea' with e5 e6 _
                subst e5 e6
                subst ea
                have HC1 := Hid.of (show ∀ w5, Up wr w5 → w5.cell? ⟨b, o + i, none⟩ = some (.int .i64 z1) from fun w5 hu => hu.cell hcl1)
                have HC2 := Hid.of (show ∀ w5, Up wr w5 → w5.cell? ⟨b, o + q, none⟩ = some (.int .i64 z2) from fun w5 hu => hu.cell hcl2)
                have hcz : (j : Int) ≤ (c : Int) := by omega
                have hqz2 : (q : Int) < (j : Int) := by omega
                have hqw : IntKind.i64.wrap ((q : Int) + 1) = (q : Int) + 1 := by rw [IntKind.wrap_i64]; omega
                have HZ1 := Hid.of (show zs[i]? = some z1 by rw [List.getElem?_eq_getElem hil, hz1])
                have HTK := Hid.of (And.intro (show zs.take (q + 1) = zs.take q ++ [z2] by rw [List.take_succ_eq_append_getElem hql, hz2]) trivial)
                have HTI := Hid.of (show (zs.take (i + 1)).Nodup → z1 ≠ z2 from fun h e => by
                  rw [List.take_succ_eq_append_getElem hil, List.nodup_append] at h
                  refine h.2.2 z2 ?_ z1 (by rw [hz1]; simp) e.symm
                  have : (zs.take i)[q]? = some z2 := by rw [List.getElem?_take_of_lt hqi, List.getElem?_eq_getElem hql, hz2]
                  exact List.mem_of_getElem? this)
                clear hx hz1 hz2 hil hql hcl1 hcl2 hc1
                by_cases he : z1 = z2
                · have hez : (z1 == z2) = true := by simp [he]
                  have HE := Hid.of (show anE R.ws.length zs t = 1 by
                    unfold anE
                    rw [if_neg H64.out, if_pos (show zs.all (fun z => decide (0 ≤ z) && decide (z < (R.ws.length : Int))) = true from HALL.out), if_pos]
                    exact .inr (.inl fun h => HTI.out (h.sublist (List.take_sublist _ _)) he))
                  clear he
                  go_wp2
                  refine wp_region_held_drew (S := fun w2 => Up wr w2) (by kernel_rfl) ((Up.refl wr).drew) (fun hS => ?_)
                  refine wpAnyH_take (i := 0) (oi := { dst := some 44, op := Go.Op.move (Go.Operand.tmp 1), type := 51, pos := "ref.go:252", after := #[], guard := none }) (v := .slice (some ⟨b, o, none⟩) j c) rfl (by kernel_rfl) (by kernel_rfl) (by kernel_rfl) (fun _ _ _ h => h) (Or.inl ⟨by kernel_rfl, ?_⟩) hS ?_
                  · intro w5 hSw
                    clear hSw hS
                    go_simp
                  simp only [Act.put, List.setIfInBounds_toArray, List.set_cons_zero, List.set_cons_succ]
                  refine wpAnyH_take (i := 1) (oi := { dst := some 45, op := Go.Op.move (Go.Operand.tmp 11), type := 3, pos := "ref.go:252", after := #[], guard := none }) (v := .int .i64 (i : Int)) rfl (by kernel_rfl) (by kernel_rfl) (by kernel_rfl) (fun _ _ _ h => h) (Or.inl ⟨by kernel_rfl, ?_⟩) hS ?_
                  · intro w5 hSw
                    clear hSw hS
                    go_simp
                  simp only [Act.put, List.setIfInBounds_toArray, List.set_cons_zero, List.set_cons_succ]
                  refine wpAnyH_take (i := 2) (oi := { dst := some 46, op := Go.Op.indexAddr 51 (Go.Operand.tmp 44) (Go.Operand.tmp 45), type := 0, pos := "ref.go:252", after := #[{ on := 0, ground := Go.Ground.data }, { on := 1, ground := Go.Ground.data }], guard := none }) (v := .pointer (some ⟨b, o + i, none⟩)) rfl (by kernel_rfl) (by kernel_rfl) (by kernel_rfl) (fun _ _ _ h => h) (Or.inl ⟨by kernel_rfl, ?_⟩) hS ?_
                  · intro w5 hSw
                    clear hSw hS
                    go_simp
                  simp only [Act.put, List.setIfInBounds_toArray, List.set_cons_zero, List.set_cons_succ]
                  refine wpAnyH_take (i := 3) (oi := { dst := some 47, op := Go.Op.load 3 (Go.Operand.tmp 46), type := 3, pos := "ref.go:252", after := #[{ on := 2, ground := Go.Ground.data }], guard := none }) (v := .int .i64 z1) rfl (by kernel_rfl) (by kernel_rfl) (by kernel_rfl) (fun _ _ _ h => h) (Or.inl ⟨by kernel_rfl, ?_⟩) hS ?_
                  · intro w5 hSw
                    have h0 := HC1.out w5 hSw
                    clear hSw hS
                    go_simp
                  simp only [Act.put, List.setIfInBounds_toArray, List.set_cons_zero, List.set_cons_succ]
                  refine wpAnyH_take (i := 4) (oi := { dst := some 48, op := Go.Op.move (Go.Operand.tmp 1), type := 51, pos := "ref.go:252", after := #[], guard := none }) (v := .slice (some ⟨b, o, none⟩) j c) rfl (by kernel_rfl) (by kernel_rfl) (by kernel_rfl) (fun _ _ _ h => h) (Or.inl ⟨by kernel_rfl, ?_⟩) hS ?_
                  · intro w5 hSw
                    clear hSw hS
                    go_simp
                  simp only [Act.put, List.setIfInBounds_toArray, List.set_cons_zero, List.set_cons_succ]
                  refine wpAnyH_take (i := 5) (oi := { dst := some 49, op := Go.Op.move (Go.Operand.tmp 12), type := 3, pos := "ref.go:252", after := #[], guard := none }) (v := .int .i64 (q : Int)) rfl (by kernel_rfl) (by kernel_rfl) (by kernel_rfl) (fun _ _ _ h => h) (Or.inl ⟨by kernel_rfl, ?_⟩) hS ?_
                  · intro w5 hSw
                    clear hSw hS
                    go_simp
                  simp only [Act.put, List.setIfInBounds_toArray, List.set_cons_zero, List.set_cons_succ]
                  refine wpAnyH_take (i := 6) (oi := { dst := some 50, op := Go.Op.indexAddr 51 (Go.Operand.tmp 48) (Go.Operand.tmp 49), type := 0, pos := "ref.go:252", after := #[{ on := 4, ground := Go.Ground.data }, { on := 5, ground := Go.Ground.data }], guard := none }) (v := .pointer (some ⟨b, o + q, none⟩)) rfl (by kernel_rfl) (by kernel_rfl) (by kernel_rfl) (fun _ _ _ h => h) (Or.inl ⟨by kernel_rfl, ?_⟩) hS ?_
                  · intro w5 hSw
                    clear hSw hS
                    go_simp
                  simp only [Act.put, List.setIfInBounds_toArray, List.set_cons_zero, List.set_cons_succ]
                  refine wpAnyH_take (i := 7) (oi := { dst := some 51, op := Go.Op.load 3 (Go.Operand.tmp 50), type := 3, pos := "ref.go:252", after := #[{ on := 6, ground := Go.Ground.data }], guard := none }) (v := .int .i64 z2) rfl (by kernel_rfl) (by kernel_rfl) (by kernel_rfl) (fun _ _ _ h => h) (Or.inl ⟨by kernel_rfl, ?_⟩) hS ?_
                  · intro w5 hSw
                    have h0 := HC2.out w5 hSw
                    clear hSw hS
                    go_simp
                  simp only [Act.put, List.setIfInBounds_toArray, List.set_cons_zero, List.set_cons_succ]
                  refine wpAnyH_take (i := 8) (oi := { dst := some 52, op := Go.Op.binOp Go.BinOp.eql 3 (Go.Operand.tmp 47) (Go.Operand.tmp 51) 3, type := 4, pos := "ref.go:252", after := #[{ on := 3, ground := Go.Ground.data }, { on := 7, ground := Go.Ground.data }], guard := none }) (v := .bool true) rfl (by kernel_rfl) (by kernel_rfl) (by kernel_rfl) (fun _ _ _ h => h) (Or.inl ⟨by kernel_rfl, ?_⟩) hS ?_
                  · intro w5 hSw
                    clear hSw hS
                    go_simp
                  simp only [Act.put, List.setIfInBounds_toArray, List.set_cons_zero, List.set_cons_succ]
                  refine wpAnyH_done (by kernel_rfl) ?_ _
                  go_wp2
                  go_ret3
                  exact RAN.bad HE.out (by decide) (HQ.out.2.trans (Up.refl wr).drew)
                · have hez : (z1 == z2) = false := by simp [he]
                  have HQ2 := Hid.of (show (∀ x ∈ zs.take (q + 1), some x ≠ zs[i]?) ∧ Up w wr.drew from ⟨fun x hx => by
                    rw [HTK.out.1] at hx
                    rcases List.mem_append.1 hx with hx | hx
                    · exact HQ.out.1 x hx
                    · obtain rfl := List.mem_singleton.1 hx
                      rw [HZ1.out]
                      intro h
                      exact he (Option.some.inj h).symm, HQ.out.2.trans (Up.refl wr).drew⟩)
                  clear he
                  go_wp2
                  refine wp_region_held_drew (S := fun w2 => Up wr w2) (by kernel_rfl) ((Up.refl wr).drew) (fun hS => ?_)
                  refine wpAnyH_take (i := 0) (oi := { dst := some 44, op := Go.Op.move (Go.Operand.tmp 1), type := 51, pos := "ref.go:252", after := #[], guard := none }) (v := .slice (some ⟨b, o, none⟩) j c) rfl (by kernel_rfl) (by kernel_rfl) (by kernel_rfl) (fun _ _ _ h => h) (Or.inl ⟨by kernel_rfl, ?_⟩) hS ?_
                  · intro w5 hSw
                    clear hSw hS
                    go_simp
                  simp only [Act.put, List.setIfInBounds_toArray, List.set_cons_zero, List.set_cons_succ]
                  refine wpAnyH_take (i := 1) (oi := { dst := some 45, op := Go.Op.move (Go.Operand.tmp 11), type := 3, pos := "ref.go:252", after := #[], guard := none }) (v := .int .i64 (i : Int)) rfl (by kernel_rfl) (by kernel_rfl) (by kernel_rfl) (fun _ _ _ h => h) (Or.inl ⟨by kernel_rfl, ?_⟩) hS ?_
                  · intro w5 hSw
                    clear hSw hS
                    go_simp
                  simp only [Act.put, List.setIfInBounds_toArray, List.set_cons_zero, List.set_cons_succ]
                  refine wpAnyH_take (i := 2) (oi := { dst := some 46, op := Go.Op.indexAddr 51 (Go.Operand.tmp 44) (Go.Operand.tmp 45), type := 0, pos := "ref.go:252", after := #[{ on := 0, ground := Go.Ground.data }, { on := 1, ground := Go.Ground.data }], guard := none }) (v := .pointer (some ⟨b, o + i, none⟩)) rfl (by kernel_rfl) (by kernel_rfl) (by kernel_rfl) (fun _ _ _ h => h) (Or.inl ⟨by kernel_rfl, ?_⟩) hS ?_
                  · intro w5 hSw
                    clear hSw hS
                    go_simp
                  simp only [Act.put, List.setIfInBounds_toArray, List.set_cons_zero, List.set_cons_succ]
                  refine wpAnyH_take (i := 3) (oi := { dst := some 47, op := Go.Op.load 3 (Go.Operand.tmp 46), type := 3, pos := "ref.go:252", after := #[{ on := 2, ground := Go.Ground.data }], guard := none }) (v := .int .i64 z1) rfl (by kernel_rfl) (by kernel_rfl) (by kernel_rfl) (fun _ _ _ h => h) (Or.inl ⟨by kernel_rfl, ?_⟩) hS ?_
                  · intro w5 hSw
                    have h0 := HC1.out w5 hSw
                    clear hSw hS
                    go_simp
                  simp only [Act.put, List.setIfInBounds_toArray, List.set_cons_zero, List.set_cons_succ]
                  refine wpAnyH_take (i := 4) (oi := { dst := some 48, op := Go.Op.move (Go.Operand.tmp 1), type := 51, pos := "ref.go:252", after := #[], guard := none }) (v := .slice (some ⟨b, o, none⟩) j c) rfl (by kernel_rfl) (by kernel_rfl) (by kernel_rfl) (fun _ _ _ h => h) (Or.inl ⟨by kernel_rfl, ?_⟩) hS ?_
                  · intro w5 hSw
                    clear hSw hS
                    go_simp
                  simp only [Act.put, List.setIfInBounds_toArray, List.set_cons_zero, List.set_cons_succ]
                  refine wpAnyH_take (i := 5) (oi := { dst := some 49, op := Go.Op.move (Go.Operand.tmp 12), type := 3, pos := "ref.go:252", after := #[], guard := none }) (v := .int .i64 (q : Int)) rfl (by kernel_rfl) (by kernel_rfl) (by kernel_rfl) (fun _ _ _ h => h) (Or.inl ⟨by kernel_rfl, ?_⟩) hS ?_
                  · intro w5 hSw
                    clear hSw hS
                    go_simp
                  simp only [Act.put, List.setIfInBounds_toArray, List.set_cons_zero, List.set_cons_succ]
                  refine wpAnyH_take (i := 6) (oi := { dst := some 50, op := Go.Op.indexAddr 51 (Go.Operand.tmp 48) (Go.Operand.tmp 49), type := 0, pos := "ref.go:252", after := #[{ on := 4, ground := Go.Ground.data }, { on := 5, ground := Go.Ground.data }], guard := none }) (v := .pointer (some ⟨b, o + q, none⟩)) rfl (by kernel_rfl) (by kernel_rfl) (by kernel_rfl) (fun _ _ _ h => h) (Or.inl ⟨by kernel_rfl, ?_⟩) hS ?_
                  · intro w5 hSw
                    clear hSw hS
                    go_simp
                  simp only [Act.put, List.setIfInBounds_toArray, List.set_cons_zero, List.set_cons_succ]
                  refine wpAnyH_take (i := 7) (oi := { dst := some 51, op := Go.Op.load 3 (Go.Operand.tmp 50), type := 3, pos := "ref.go:252", after := #[{ on := 6, ground := Go.Ground.data }], guard := none }) (v := .int .i64 z2) rfl (by kernel_rfl) (by kernel_rfl) (by kernel_rfl) (fun _ _ _ h => h) (Or.inl ⟨by kernel_rfl, ?_⟩) hS ?_
                  · intro w5 hSw
                    have h0 := HC2.out w5 hSw
                    clear hSw hS
                    go_simp
                  simp only [Act.put, List.setIfInBounds_toArray, List.set_cons_zero, List.set_cons_succ]
                  refine wpAnyH_take (i := 8) (oi := { dst := some 52, op := Go.Op.binOp Go.BinOp.eql 3 (Go.Operand.tmp 47) (Go.Operand.tmp 51) 3, type := 4, pos := "ref.go:252", after := #[{ on := 3, ground := Go.Ground.data }, { on := 7, ground := Go.Ground.data }], guard := none }) (v := .bool false) rfl (by kernel_rfl) (by kernel_rfl) (by kernel_rfl) (fun _ _ _ h => h) (Or.inl ⟨by kernel_rfl, ?_⟩) hS ?_
                  · intro w5 hSw
                    clear hSw hS
                    go_simp
                  simp only [Act.put, List.setIfInBounds_toArray, List.set_cons_zero, List.set_cons_succ]
                  refine wpAnyH_done (by kernel_rfl) ?_ _
                  go_wp2
                  go_roundw
                  case rel => exact ⟨q + 1, by simp, by omega, HQ2⟩
                  case measure => simp [intOf]; omega
              · have hqz : ¬ (q : Int) < (i : Int) := by omega
                obtain rfl : q = i := by omega
                have hil : q < zs.length := by rw [HNN.out.1]; exact hlt
                have HR2 := Hid.of (show (zs.take (q + 1)).Nodup ∧ Up w wr from ⟨nodup_snoc hil HR.out.1 (fun x hx e => HQ.out.1 x hx (by rw [List.getElem?_eq_getElem hil, e])), HQ.out.2⟩)
                have hqw : IntKind.i64.wrap ((q : Int) + 1) = (q : Int) + 1 := by rw [IntKind.wrap_i64]; omega
                clear hil
                go_wp2
                go_roundw
                case rel => exact ⟨q + 1, by simp, by omega, HR2⟩
                case measure => simp [intOf]; omega
          · have hltz : ¬ (i : Int) < (j : Int) := by omega
            obtain rfl : i = j := by omega
            have HND := Hid.of (show zs.Nodup by
              have := HR.out.1
              rw [List.take_of_length_le (by rw [HNN.out.1]; exact Nat.le_refl _)] at this
              exact this)
            have HU := Hid.of HR.out.2
            clear HR
            by_cases hbad : i = 0 ∨ t < 0 ∨ 65536 < t
            · have HE := Hid.of (show anE R.ws.length zs t = 1 by
                unfold anE
                rw [if_neg H64.out, if_pos (show zs.all (fun z => decide (0 ≤ z) && decide (z < (R.ws.length : Int))) = true from HALL.out), if_pos]
                rcases hbad with h | h
                · exact .inl (List.eq_nil_of_length_eq_zero (by rw [HNN.out.1]; exact h))
                · exact .inr (.inr h))
              have h3 : i = 0 ∨ (i ≠ 0 ∧ t < 0) ∨ (i ≠ 0 ∧ ¬ t < 0 ∧ 65536 < t) := by omega
              clear hbad
              rcases h3 with h3 | ⟨h3, h4⟩ | ⟨h3, h4, h5⟩
              · subst h3
                go_wp2
                go_ret3
                exact RAN.bad HE.out (by decide) HU.out
              · have h3z : ((i : Int) == 0) = false := by simp; omega
                have h3y : ¬ (i : Int) = 0 := by omega
                go_wp2
                go_ret3
                exact RAN.bad HE.out (by decide) HU.out
              · have h3z : ((i : Int) == 0) = false := by simp; omega
                have h3y : ¬ (i : Int) = 0 := by omega
                go_wp2
                go_ret3
                exact RAN.bad HE.out (by decide) HU.out
            · have h3 : i ≠ 0 := fun h => hbad (.inl h)
              have h4 : ¬ t < 0 := fun h => hbad (.inr (.inl h))
              have h5 : ¬ 65536 < t := fun h => hbad (.inr (.inr h))
              have h3z : ((i : Int) == 0) = false := by simp; omega
              have h3y : ¬ (i : Int) = 0 := by omega
              have HE := Hid.of (show anE R.ws.length zs t = 0 by
                unfold anE
                rw [if_neg H64.out, if_pos (show zs.all (fun z => decide (0 ≤ z) && decide (z < (R.ws.length : Int))) = true from HALL.out), if_neg]
                rintro (h | h | h | h)
                · rw [h] at HNN
                  exact h3 HNN.out.1.symm
                · exact h HND.out
                · exact h4 h
                · exact h5 h)
              obtain ⟨o1, o2, o3, o4, o5, is, o6, o7⟩ := anE_ok HE.out
              obtain ⟨m, rfl⟩ : ∃ m : Nat, t = (m : Int) := ⟨t.toNat, by omega⟩
              have hine : is ≠ [] := fun h => o2 (by rw [o6, h]; rfl)
              have hilen : is.length = i := by rw [← HNN.out.1, o6, List.length_map]
              have hln : LnR wr (.slice a i c) is := by
                have h9 := HIL.out.up HU.out
                rw [o6] at h9
                have h8 := h9.lnr hine
                rw [List.length_map] at h8
                rw [← hilen]
                exact h8
              have hW := Rwait_walk wr R (.slice a i c) is m (HN.out.up HU.out) HK.out hln (fun g hg => ⟨(HV.out o2 g hg).1, Nat.lt_of_lt_of_le (HV.out o2 g hg).2 HU.out.size⟩) o7 (by omega) (by omega) hnow hbd
              have HO6 := Hid.of o6
              obtain ⟨Q, hQ⟩ : ∃ Q, awA m (absR R) is = Q := ⟨_, rfl⟩
              rw [hQ] at hW
              have HQ := Hid.of hQ
              clear hbad o1 o2 o3 o6 o7 hine hilen hln hQ
              obtain ⟨⟨q1, q2, q3⟩, q4⟩ := Q
              dsimp only at hW
              go_wp2_with fail
              refine hW.mono ?_
              rintro e w2 ⟨mv, R', rfl, ho, hs, hp⟩
              have HO := Hid.of ho
              have HS := Hid.of hs
              have HP := Hid.of hp
              clear ho hs hp hW
              obtain ⟨ma, mc, rfl, _⟩ := Ow.sb HO.out
              dsimp only
              go_wp2
              go_ret3
              have hQ := HQ.out
              exact .inr ⟨HE.out, is, m, .slice ma q2.length mc, R', HO6.out, rfl, by rw [hQ]; rfl, by rw [hQ]; exact HO.out, by rw [hQ]; exact (HS.out.base HU.out).low HU.out.size, HP.out⟩
end Go.Proofs.Ytdlfkdehfenemaa
