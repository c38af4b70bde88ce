import Derived.Test.YtgfehlcindapmaaHg
namespace Go.Proofs.Ytgfehlcindapmaa
open Go.RowKit Go.Conc TextNum
/-- the net behind the first j messages -/
def Aj (ss : List Sn) (j : Nat) : AN := (ss.take j).foldl (snA true true) (A0 true true ss)
theorem Aj_now (ss : List Sn) (j : Nat) : (Aj ss j).now = gsum (ss.take j) := by
  unfold Aj
  rw [fold_now]
  show 0 + _ = _
  omega
/-- what is known of the list behind the first j messages -/
structure LP (w wr : World) (ss : List Sn) (k j : Nat) (D : List Co) (v : Value) : Prop where
  co : CO wr 0 v D
  ln : D.length ≤ 2 * j
  cv : CV k j (Aj ss j) D
  fs : (Aj ss j).fs = ftl true true (ss.drop j)
  lt : ∀ c ∈ D, c.t ≤ gsum (ss.take j) + 40
  rd : ∀ c ∈ D, Sb w (cov c) c.d ∨ Ow wr 0 (cov c) c.d
theorem LP.start (w wr : World) (ss : List Sn) (k : Nat) (hk : k < 2) : LP w wr ss k 0 [] (.slice none 0 0) :=
  ⟨World.ownsRow_nil _ _ _ _, Nat.zero_le _, CV.start k 0 hk _, rfl, fun c hc => (by cases hc), fun c hc => (by cases hc)⟩
theorem Aj_next {ss : List Sn} {j : Nat} (hj : j < ss.length) {q : Sn} (hq : ss[j] = q) : Aj ss (j + 1) = snA true true (Aj ss j) q := by
  unfold Aj
  rw [take_snoc hj hq, List.foldl_append]
  rfl
theorem LP.pass {w wr w2 : World} {ss : List Sn} {k j : Nat} {D : List Co} {v : Value} (h : LP w wr ss k j D v) (hj : j < ss.length) {q : Sn} (hq : ss[j] = q) (hi : q.i < 2) (h24 : j < 24) (hk : q.i ≠ k) (u : Up wr w2) : LP w w2 ss k (j + 1) D v := by
  have hln := h.ln
  have hdr : ss.drop j = q :: ss.drop (j + 1) := by rw [← hq]; exact List.drop_eq_getElem_cons hj
  obtain ⟨h1, h2, _⟩ := h.cv.sn (q := q) (r := ss.drop (j + 1)) (by rw [← hdr]; exact h.fs) hi (by omega)
  have e := Aj_next hj hq
  refine ⟨ow_up h.co u, by omega, ?_, by rw [e]; exact h1, fun c hc => ?_, fun c hc => (h.rd c hc).imp id (fun o => ow_up o u)⟩
  · rw [e]
    exact (h2 hk).next (by omega)
  · have := h.lt c hc
    rw [take_snoc hj hq, gsum_snoc]
    omega
theorem LP.add {w wr w2 : World} {ss : List Sn} {k j : Nat} {D cs : List Co} {v v' : Value} (h : LP w wr ss k j D v) (hj : j < ss.length) {q : Sn} (hq : ss[j] = q) (ht : Tm w q) (h24 : j < 24) (hk : q.i = k) (b : Bec wr w2 v' D q (gsum (ss.take j) + q.g) j cs) : LP w w2 ss k (j + 1) (cs.foldl putL D) v' := by
  have hln := h.ln
  have hdr : ss.drop j = q :: ss.drop (j + 1) := by rw [← hq]; exact List.drop_eq_getElem_cons hj
  obtain ⟨h1, _, h3⟩ := h.cv.sn (q := q) (r := ss.drop (j + 1)) (by rw [← hdr]; exact h.fs) ht.1.i2 (by omega)
  have e := Aj_next hj hq
  have hcl := b.fo.len
  have hpl := posts_len q.d (q.k, q.n)
  have hfl := fold_len cs D
  have hn0 : q.n.toNat < 40 := by have := ht.2; omega
  refine ⟨b.co, by omega, ?_, by rw [e]; exact h1, fun c hc => ?_, fun c hc => ?_⟩
  · rw [e]
    refine (h3 cs hk ?_).next (by omega)
    rw [Aj_now]
    exact b.fo
  · rw [take_snoc hj hq, gsum_snoc]
    rcases fold_mem hc with hc | hc
    · exact b.fo.late (fun p hp => by
        have := posts_late q.d (q.k, q.n) p hp
        dsimp only at this
        omega) c hc
    · have := h.lt c hc
      omega
  · rcases fold_mem hc with hc | hc
    · exact (b.rd c hc).imp (fun f => f w ht.1) id
    · exact (h.rd c hc).imp id (fun o => ow_up o b.up)
theorem gsum_take {l : List Sn} (h : ∀ q ∈ l, q.g < 20) (j : Nat) : gsum (l.take j) ≤ 20 * l.length := by
  refine Nat.le_trans (gsum_le fun q hq => h q (List.mem_of_mem_take hq)) ?_
  have : (l.take j).length ≤ l.length := by rw [List.length_take]; omega
  omega
set_option maxRecDepth 100000 in
set_option maxHeartbeats 4000000 in
theorem LaneComes_walk (w : World) (a : Option Addr) (c : Nat) (l : List Rw) (z : Int) (h : RwL w a l) : Calls Try.prog 10 #[.slice a l.length c, .int .i64 z] w fun e w' => e = .returned (.bool true) ∧ Up w w' := by
  have hSc := script_walk w w a c l h h.ok
  clear h
  go_enter Try.func10, Try.ntmps10
  go_wp2_with fail
  refine hSc.mono ?_
  rintro e w1 ⟨vs, rfl, ss, hso, hle, htm, u1⟩
  obtain ⟨a1, c1, rfl, _⟩ := hso.shape
  have HSL := Hid.of (SO.read hso u1 (fun q hq => (htm q hq).1))
  have HTM := Hid.of htm
  have HU1 := Hid.of u1
  clear hSc hso htm u1
  dsimp only
  go_wp2_with fail
  refine (below_walk w1 z 2 (by omega) (by omega)).mono ?_
  rintro e w9 ⟨k, rfl, hk2, h9⟩
  obtain rfl := h9.symm
  clear h9
  dsimp only
  go_wp2_with fail
  have hS1 := sends_walk w1 a1 c1 ss true true HSL.out (by omega)
  refine hS1.mono ?_
  rintro e w2 ⟨nb, rfl, S, hJ, hnb, _⟩
  have HJ := Hid.of (hJ.base HU1.out)
  have HNB := Hid.of (And.intro hnb trivial)
  have HU2 := Hid.of hJ.up
  have hgs : gsum ss ≤ 480 := Nat.le_trans (gsum_le (fun q hq => (HTM.out q hq).1.g2)) (by omega)
  have HGT := Hid.of (gsum_take (l := ss) (fun q hq => (HTM.out q hq).1.g2))
  clear hS1 hJ hnb
  dsimp only
  obtain ⟨n, hn⟩ : ∃ n, ss.length = n := ⟨_, rfl⟩
  have HNN := Hid.of (And.intro hn trivial)
  rw [hn] at hle ⊢
  clear hn
  obtain ⟨G, hG⟩ : ∃ G, gsum ss = G := ⟨_, rfl⟩
  have HG := Hid.of (And.intro hG trivial)
  rw [hG] at hgs ⊢
  clear hG
  go_wp2
  go_loopw [10, 11, 12] (fun v10 v11 v12 wr => ∃ j : Nat, v12 = .int .i64 (j : Int) ∧ v11 = .int .i64 ((gsum (ss.take j) : Nat) : Int) ∧ j ≤ n ∧ Hid ((∃ D, LP w wr ss k j D v10) ∧ Up w2 wr)) (fun _ _ v12 _ => n - (intOf v12).toNat)
  case atStart => exact ⟨0, rfl, rfl, by omega, Hid.of ⟨⟨[], LP.start w w2 ss k hk2⟩, Up.refl _⟩⟩
  case round =>
    obtain ⟨j, rfl, rfl, hjn, hR⟩ := hrel
    by_cases hlt : j < n
    · have hltz : (j : Int) < (n : Int) := by omega
      have hjw : IntKind.i64.wrap ((j : Int) + 1) = (j : Int) + 1 := by rw [IntKind.wrap_i64]; omega
      have hj : j < ss.length := by rw [HNN.out.1]; exact hlt
      obtain ⟨q, hq⟩ : ∃ q, ss[j] = q := ⟨_, rfl⟩
      have HQ := Hid.of (show ss[j] = q ∧ Tm w q from ⟨hq, HTM.out q (hq ▸ List.getElem_mem hj)⟩)
      obtain ⟨⟨D, hD⟩, hU⟩ := hR.out
      have HD := Hid.of hD
      have HU := Hid.of hU
      obtain ⟨b, off, e, hrg⟩ := (HSL.out.up (HU2.out.trans hU)).cells j hj
      obtain ⟨b', off', e', cg, ci, _, _, _⟩ := (HSL.out.up (HU2.out.trans hU)).get hj
      obtain rfl := e
      obtain ⟨rfl, rfl⟩ : b = b' ∧ off = off' := by simpa using e'
      rw [hq] at cg ci hrg
      have HRG := Hid.of hrg
      have HTS := Hid.of (show gsum (ss.take (j + 1)) = gsum (ss.take j) + q.g by rw [take_snoc hj hq, gsum_snoc])
      have hg0 := HGT.out j
      have hg20 := HQ.out.2.1.g2
      clear hR hD hU hrg hq e'
      rw [HNN.out.1] at hg0
      obtain ⟨gj, hgj⟩ : ∃ gj, gsum (ss.take j) = gj := ⟨_, rfl⟩
      have HGJ := Hid.of (And.intro hgj trivial)
      rw [hgj] at hg0 HTS ⊢
      clear hgj
      have hgw : IntKind.i64.wrap ((gj : Int) + (q.g : Int)) = ((gj + q.g : Nat) : Int) := by rw [IntKind.wrap_i64]; omega
      by_cases hik : q.i = k
      · have hikz : ((q.i : Nat) : Int) = (k : Int) := by omega
        have HIK := Hid.of (And.intro hik trivial)
        clear hik
        go_wp2_with (with_reducible show wpList _ _ _ ({ dst := _, op := Op.load 65 _, type := _, pos := _, after := _, guard := _ } :: _) _ _; refine Shut.out ?_)
        show wpList _ _ _ _ _ _
        refine wpList_load_mid rfl 65 _ rfl b (off + j * 5) rfl (snc q) _ HRG.out Try.underlying65 rfl (by kernel_rfl) ?_
        simp only [Act.put, List.setIfInBounds_toArray, List.set_cons_zero, List.set_cons_succ]
        have hB := becomes_any wr u10 D HD.out.co (by have := HD.out.ln; omega) q (gj + q.g) j ⟨HQ.out.2.1.up (HU1.out.trans (HU2.out.trans HU.out)), HQ.out.2.2⟩ (by omega)
        rw [show ((gj + q.g : Nat) : Int) = (gj : Int) + (q.g : Int) by omega] at hB
        go_wp2_with fail
        refine hB.mono ?_
        rintro e w5 ⟨v5, cs, rfl, hb⟩
        have HN := Hid.of (show (∃ D, LP w w5 ss k (j + 1) D v5) ∧ Up w2 w5 from ⟨⟨_, HD.out.add hj HQ.out.1 HQ.out.2 (by omega) HIK.out.1 (by rw [HGJ.out.1]; exact hb)⟩, HU.out.trans hb.up⟩)
        clear hB hb
        dsimp only
        go_wp2
        go_roundw
        case rel => exact ⟨j + 1, by simp, by rw [HTS.out]; simp, by omega, HN⟩
        case measure => simp [intOf]; omega
      · have hikz : ¬ ((q.i : Nat) : Int) = (k : Int) := by omega
        have HN := Hid.of (show (∃ D, LP w wr ss k (j + 1) D u10) ∧ Up w2 wr from ⟨⟨D, HD.out.pass hj HQ.out.1 HQ.out.2.1.i2 (by omega) hik (Up.refl _)⟩, HU.out⟩)
        clear hik
        go_wp2
        go_roundw
        case rel => exact ⟨j + 1, by simp, by rw [HTS.out]; simp, by omega, HN⟩
        case measure => simp [intOf]; omega
    · have hltz : ¬ (j : Int) < (n : Int) := by omega
      obtain rfl : j = n := by omega
      obtain ⟨⟨D, hD⟩, hU⟩ := hR.out
      have hT : ss.take j = ss := by rw [← HNN.out.1, List.take_length]
      have hA : Aj ss j = ss.foldl (snA true true) (A0 true true ss) := by unfold Aj; rw [hT]
      have hDJ : DJ w wr nb k j 25 G 0 S (Aj ss j) D u10 := ⟨by rw [hA]; exact HJ.out.up' hU, HNB.out.1, hD.cv, hD.co, hD.rd, by rw [Aj_now, hT, HG.out.1]; exact Nat.le_refl _, by rw [Aj_now, hT, HG.out.1]; omega⟩
      have hdr := drained_walk w wr nb k j 25 G S (Aj ss j) D u10 hDJ (by rw [Aj_now, hT, HG.out.1]) (by omega) (by omega) (by have := hD.ln; omega) (fun c hc => by have := hD.lt c hc; rw [hT, HG.out.1] at this; exact this)
      clear hR hD hU hT hA hDJ
      go_wp2_with fail
      refine hdr.mono ?_
      rintro e w9 ⟨rfl, u9⟩
      dsimp only
      go_wp2
      go_ret
      exact ⟨rfl, u9⟩
end Go.Proofs.Ytgfehlcindapmaa
