import Derived.Test.YtgfehlcindapmaaHf
import Derived.Test.YtgfehlcindapmaaGk
namespace Go.Proofs.Ytgfehlcindapmaa
open Go.RowKit Go.Conc TextNum
theorem CoL.get {w : World} {a : Option Addr} {l : List Co} (h : CoL w a l) {i : Nat} (hi : i < l.length) {q : Co} (hq : l[i] = q) : ∃ b off, a = some ⟨b, off, none⟩ ∧ w.cell? ⟨b, off + i * 4, none⟩ = some (.int .i64 (q.t : Int)) ∧ w.cell? ⟨b, off + i * 4 + 3, none⟩ = some (.slice q.a q.d.length q.c) := by
  subst hq
  obtain ⟨b, off, e, k⟩ := h i hi
  exact ⟨b, off, e, k 0 _ rfl, k 3 _ rfl⟩
theorem co_not_own {w : World} {S : NS} (h : NOk w S) {B : Nat} {v : Value} {D : List Co} (o : CO w B v D) : ∀ g, v.ownBlock = some g → ¬ own S g := fun g hg hk => by
  have t := row_tag o hg
  rcases h.tag hk with e | e | e | e | e <;> rw [t] at e <;> cases e
/-- what is known while a lane is drained -/
structure DJ (w wr : World) (nb k i K T j : Nat) (S : NS) (A : AN) (D : List Co) (v : Value) : Prop where
  lj : LJ w wr S A K
  nb : S.nb = nb
  cv : CV k i A (D.drop j)
  co : CO wr 0 v D
  rd : ∀ c ∈ D, Sb w (cov c) c.d ∨ Ow wr 0 (cov c) c.d
  t0 : T ≤ A.now
  t1 : A.now ≤ T + 40
theorem DJ.up' {w wr w2 : World} {nb k i K T j : Nat} {S : NS} {A : AN} {D : List Co} {v : Value} (h : DJ w wr nb k i K T j S A D v) (u : Up wr w2) : DJ w w2 nb k i K T j S A D v :=
  ⟨h.lj.up' u, h.nb, h.cv, ow_up h.co u, fun c hc => (h.rd c hc).imp id (fun o => ow_up o u), h.t0, h.t1⟩
theorem DJ.st {w wr w2 : World} {nb k i K T j j' N : Nat} {S S' : NS} {A A' : AN} {D : List Co} {v : Value} (h : DJ w wr nb k i K T j S A D v) (s : Stp N 0 wr w2 S S' A') (hc : CV k i A' (D.drop j')) (h0 : T ≤ A'.now) (h1 : A'.now ≤ T + 40) : DJ w w2 nb k i K T j' S' A' D v :=
  ⟨h.lj.st s, s.nb.trans h.nb, hc, s.fr.own h.co (co_not_own h.lj.ok h.co), fun c hc => (h.rd c hc).imp id (fun o => s.ow h.lj.ok o), h0, h1⟩
theorem DJ.sb {w wr : World} {nb k i K T j : Nat} {S : NS} {A : AN} {D : List Co} {v : Value} (h : DJ w wr nb k i K T j S A D v) {c : Co} (hc : c ∈ D) : Sb wr (.slice c.a c.d.length c.c) c.d :=
  (h.rd c hc).elim (fun s => s.up h.lj.up) Ow.sb
theorem sb_fits {w : World} {v : Value} {d : List UInt8} (h : Sb w v d) : d.length ≤ 9223372036854775807 := by
  obtain ⟨a, c, _, h1, h2, _⟩ := h
  simp only [maxLen] at h2
  omega
set_option maxRecDepth 100000 in
set_option maxHeartbeats 4000000 in
theorem drained_walk (w wr : World) (nb k i K T : Nat) (S : NS) (A : AN) (D : List Co) (v : Value) (h : DJ w wr nb k i K T 0 S A D v) (hT : A.now = T) (hT2 : T ≤ 1152921504606846976) (hK : K ≤ 549755813888) (hl : D.length ≤ 48) (hd : ∀ c ∈ D, c.t ≤ T + 40) :
    Calls Try.prog 28 #[.pointer (some ⟨nb, 0, none⟩), .int .i64 (k : Int), v, .int .i64 (T : Int)] wr fun e w' => e = .returned (.bool true) ∧ Up w w' := by
  obtain ⟨a, c0, rfl, _⟩ := h.co.shape
  have HJ := Hid.of h
  have HD := Hid.of hd
  obtain ⟨l, hl1, hl2, hl3⟩ := abs_get h.lj.ab h.cv.ls
  have hWt := Waiting_yes wr S k l h.lj.ok hl1
  rw [h.nb, show l.ms.length = (D.filter fun x => decide (x.t ≤ T)).length by
    have := congrArg List.length hl3
    rw [List.length_map, List.length_map, hT] at this
    exact this] at hWt
  have HTT := Hid.of (And.intro hT trivial)
  obtain ⟨n, hn⟩ : ∃ n, D.length = n := ⟨_, rfl⟩
  have HNN := Hid.of (And.intro hn trivial)
  rw [hn] at hl ⊢
  clear h hd hn hl1 hl2 hl3 hT
  have HALL := Hid.of (And.intro (show D.take n = D by rw [← HNN.out.1, List.take_length]) trivial)
  go_enter Try.func28, Try.ntmps28
  go_wp2
  go_loopw [9, 10] (fun v9 v10 w2 => ∃ j : Nat, v10 = .int .i64 (j : Int) ∧ v9 = .int .i64 ((((D.take j).filter fun x => decide (x.t ≤ T)).length : Nat) : Int) ∧ j ≤ n ∧ Hid (w2 = wr)) (fun _ v10 _ => n - (intOf v10).toNat)
  case atStart => exact ⟨0, rfl, rfl, by omega, Hid.of rfl⟩
  case round =>
    obtain ⟨j, rfl, rfl, hjn, hw2⟩ := hrel
    obtain rfl := hw2.out
    clear hw2
    by_cases hlt : j < n
    · have hltz : (j : Int) < (n : Int) := by omega
      have hjw : IntKind.i64.wrap ((j : Int) + 1) = (j : Int) + 1 := by rw [IntKind.wrap_i64]; omega
      have hj : j < D.length := by rw [HNN.out.1]; exact hlt
      obtain ⟨q, hq⟩ : ∃ q, D[j] = q := ⟨_, rfl⟩
      obtain ⟨b, off, rfl, hc0, _⟩ := HJ.out.co.read.get hj hq
      have HTS := Hid.of (And.intro (takeC hj hq) trivial)
      have HFL := Hid.of (len_filter_le (fun x : Co => decide (x.t ≤ T)) (D.take j))
      have hfl : ((D.take j).filter fun x => decide (x.t ≤ T)).length ≤ 48 := by
        have := HFL.out
        rw [List.length_take] at this
        omega
      obtain ⟨f, hf⟩ : ∃ f, ((D.take j).filter fun x => decide (x.t ≤ T)).length = f := ⟨_, rfl⟩
      have HF := Hid.of (And.intro hf trivial)
      rw [hf] at hfl ⊢
      clear hq hf HFL
      have hfw : IntKind.i64.wrap ((f : Int) + 1) = (f : Int) + 1 := by rw [IntKind.wrap_i64]; omega
      by_cases hle : q.t ≤ T
      · have hlez : (q.t : Int) ≤ (T : Int) := by omega
        have HN := Hid.of (show ((D.take (j + 1)).filter fun x => decide (x.t ≤ T)).length = f + 1 by
          rw [HTS.out.1, List.filter_append, List.length_append, HF.out.1, List.filter_cons_of_pos (by simpa using hle)]
          rfl)
        clear hle
        go_wp2
        go_roundw
        case rel => exact ⟨j + 1, by simp, by rw [HN.out]; simp, by omega, Hid.of trivial⟩
        case measure => simp [intOf]; omega
      · have hlez : ¬ (q.t : Int) ≤ (T : Int) := by omega
        have HN := Hid.of (show ((D.take (j + 1)).filter fun x => decide (x.t ≤ T)).length = f by
          rw [HTS.out.1, List.filter_append, List.length_append, HF.out.1, List.filter_cons_of_neg (by simpa using hle)]
          rfl)
        clear hle
        go_wp2
        go_roundw
        case rel => exact ⟨j + 1, by simp, by rw [HN.out], by omega, Hid.of trivial⟩
        case measure => simp [intOf]; omega
    · have hltz : ¬ (j : Int) < (n : Int) := by omega
      obtain rfl : j = n := by omega
      rw [HALL.out.1]
      generalize (D.filter fun x => decide (x.t ≤ T)).length = f at *
      go_wp2_with fail
      refine hWt.mono ?_
      rintro e w9 ⟨rfl, h9⟩
      obtain rfl := h9.symm
      clear h9 hWt
      dsimp only
      have HJ0 := Hid.of (show ∃ S A, DJ w wr nb k i K T 0 S A D (.slice a j c0) ∧ A.now = T from by
        have h8 := HJ.out
        rw [HNN.out.1] at h8
        exact ⟨S, A, h8, HTT.out.1⟩)
      clear HJ HTT
      go_wp2_with (go_at_call 13; refine (num_walk _ _).mono ?_; rintro _ w9 ⟨rfl, h9⟩; obtain rfl := h9.symm; clear h9; dsimp only)
      go_loopw [3, 13, 14, 15, 16, 17] (fun v3 v13 _ _ _ _ w3 => ∃ m t : Nat, v13 = .int .i64 (m : Int) ∧ v3 = .int .i64 (t : Int) ∧ m ≤ j ∧ Hid (∃ S A, DJ w w3 nb k i K T m S A D (.slice a j c0) ∧ A.now = t)) (fun _ v13 _ _ _ _ _ => j - (intOf v13).toNat)
      case atStart => exact ⟨0, T, rfl, rfl, by omega, HJ0⟩
      case round =>
        clear HJ0
        obtain ⟨m, t, rfl, rfl, hmn, hR⟩ := hrel
        obtain ⟨S, A, hJ, rfl⟩ := hR.out
        have HJ := Hid.of hJ
        clear hR hJ
        by_cases hml : m < j
        · have hmlz : (m : Int) < (j : Int) := by omega
          have hmw : IntKind.i64.wrap ((m : Int) + 1) = (m : Int) + 1 := by rw [IntKind.wrap_i64]; omega
          have hm : m < D.length := by rw [HNN.out.1]; exact hml
          obtain ⟨q, hq⟩ : ∃ q, D[m] = q := ⟨_, rfl⟩
          have hdr : D.drop m = q :: D.drop (m + 1) := by rw [← hq]; exact List.drop_eq_getElem_cons hm
          have HM := Hid.of (hq ▸ List.getElem_mem hm : q ∈ D)
          have HQ := Hid.of (And.intro hq trivial)
          have hcv := HJ.out.cv
          rw [hdr] at hcv
          have hqt := HD.out q HM.out
          obtain ⟨A', e1, e2, e3⟩ := hcv.aw 100 (by have := HJ.out.t0; omega) (by rw [← hdr, List.length_drop, HNN.out.1]; omega)
          have hW := HJ.out.lj.wait k 100 HJ.out.cv.ls (by omega) (by have := HJ.out.t1; omega) (by omega)
          rw [HJ.out.nb, e1] at hW
          have HE2 := Hid.of e2
          have HE3 := Hid.of (And.intro e3 hqt)
          clear hq hdr hcv hqt e1 e2 e3
          dsimp only at hW
          go_wp2_with fail
          refine hW.mono ?_
          rintro e w4 ⟨mv, rfl, om, S', h9⟩
          have HJ2 := Hid.of (HJ.out.st h9 HE2.out (by have := HE3.out.1; have := HJ.out.t0; omega) (by have := HE3.out.1; have := HE3.out.2; have := HJ.out.t1; omega))
          have HOM := Hid.of om
          clear h9 hW om HE2
          dsimp only
          have hco := HJ2.out.co
          rw [← HNN.out.1] at hco
          obtain ⟨b, off, rfl, hc0, hc3⟩ := hco.read.get hm HQ.out.1
          clear hco
          have hsm := same_any w4 mv (.slice q.a q.d.length q.c) q.d q.d (Ow.sb HOM.out) (HJ2.out.sb HM.out) (sb_fits (Ow.sb HOM.out))
          have hNw := Now_walk w4 S' HJ2.out.lj.ok
          rw [HJ2.out.nb, HJ2.out.lj.now, HE3.out.1] at hNw
          rw [show (q.d == q.d) = true by simp] at hsm
          generalize hAn : A.now = t at *
          clear hAn
          by_cases hgt : t < q.t
          · have hgtz : (t : Int) < (q.t : Int) := by omega
            rw [show max t q.t = q.t by omega] at hNw HE3
            clear hgt
            have HN := Hid.of (show ∃ S A, DJ w w4 nb k i K T (m + 1) S A D (.slice (some ⟨b, off, none⟩) j c0) ∧ A.now = q.t from ⟨S', A', HJ2.out, HE3.out.1⟩)
            have hsm2 := hsm
            clear hsm HE3 HJ2 HOM HQ HM HJ
            go_wp2_with (first | (go_at_call 13; refine (num_walk _ _).mono ?_; rintro _ w9 ⟨rfl, h9⟩; obtain rfl := h9.symm; clear h9; dsimp only) | (go_at_call 16; refine hNw.mono ?_; rintro _ w9 ⟨rfl, h9⟩; obtain rfl := h9.symm; clear h9; dsimp only))
            refine hsm2.mono ?_
            rintro e w6 ⟨rfl, u6⟩
            have HN2 := Hid.of (show ∃ S A, DJ w w6 nb k i K T (m + 1) S A D (.slice (some ⟨b, off, none⟩) j c0) ∧ A.now = q.t from by
              obtain ⟨S, A, h1, h2⟩ := HN.out
              exact ⟨S, A, h1.up' u6, h2⟩)
            clear HN u6 hsm2
            dsimp only
            go_wp2_with (first | (go_at_call 13; refine (num_walk _ _).mono ?_; rintro _ w9 ⟨rfl, h9⟩; obtain rfl := h9.symm; clear h9; dsimp only) | (go_at_call 16; refine hNw.mono ?_; rintro _ w9 ⟨rfl, h9⟩; obtain rfl := h9.symm; clear h9; dsimp only))
            go_roundw
            case rel => exact ⟨m + 1, q.t, by simp, rfl, by omega, HN2⟩
            case measure => simp [intOf]; omega
          · have hgtz : ¬ (t : Int) < (q.t : Int) := by omega
            rw [show max t q.t = t by omega] at hNw HE3
            clear hgt
            have HN := Hid.of (show ∃ S A, DJ w w4 nb k i K T (m + 1) S A D (.slice (some ⟨b, off, none⟩) j c0) ∧ A.now = t from ⟨S', A', HJ2.out, HE3.out.1⟩)
            have hsm2 := hsm
            clear hsm HE3 HJ2 HOM HQ HM HJ
            go_wp2_with (first | (go_at_call 13; refine (num_walk _ _).mono ?_; rintro _ w9 ⟨rfl, h9⟩; obtain rfl := h9.symm; clear h9; dsimp only) | (go_at_call 16; refine hNw.mono ?_; rintro _ w9 ⟨rfl, h9⟩; obtain rfl := h9.symm; clear h9; dsimp only))
            refine hsm2.mono ?_
            rintro e w6 ⟨rfl, u6⟩
            have HN2 := Hid.of (show ∃ S A, DJ w w6 nb k i K T (m + 1) S A D (.slice (some ⟨b, off, none⟩) j c0) ∧ A.now = t from by
              obtain ⟨S, A, h1, h2⟩ := HN.out
              exact ⟨S, A, h1.up' u6, h2⟩)
            clear HN u6 hsm2
            dsimp only
            go_wp2_with (first | (go_at_call 13; refine (num_walk _ _).mono ?_; rintro _ w9 ⟨rfl, h9⟩; obtain rfl := h9.symm; clear h9; dsimp only) | (go_at_call 16; refine hNw.mono ?_; rintro _ w9 ⟨rfl, h9⟩; obtain rfl := h9.symm; clear h9; dsimp only))
            go_roundw
            case rel => exact ⟨m + 1, t, by simp, rfl, by omega, HN2⟩
            case measure => simp [intOf]; omega
        · have hmlz : ¬ (m : Int) < (j : Int) := by omega
          obtain rfl : m = j := by omega
          have hcv := HJ.out.cv
          rw [show D.drop m = [] by rw [← HNN.out.1, List.drop_length]] at hcv
          have hC := HJ.out.lj.shut hcv.ls
          rw [HJ.out.nb] at hC
          go_wp2_with fail
          refine hC.mono ?_
          rintro e w4 ⟨rfl, S', h9⟩
          have HJ2 := Hid.of (HJ.out.lj.st h9)
          have HN2 := Hid.of (And.intro (h9.nb.trans HJ.out.nb) trivial)
          have hls : (clA A k).ls[k]? = some ([], true) := by
            show (A.ls.modify k fun x => (x.1, true))[k]? = _
            rw [List.getElem?_modify_eq, hcv.ls]
            rfl
          have hW := HJ2.out.wait k 100 hls (by omega) (by show A.now ≤ _; have := HJ.out.t1; omega) (by omega)
          rw [HN2.out.1, hcv.over 100] at hW
          clear h9 hC hcv hls
          dsimp only at hW ⊢
          go_wp2_with fail
          refine hW.mono ?_
          rintro e w5 ⟨mv, rfl, om, S2, h9⟩
          have HJ3 := Hid.of (HJ2.out.st h9)
          have hNw := Now_walk w5 S2 HJ3.out.ok
          rw [show S2.nb = nb from h9.nb.trans HN2.out.1, HJ3.out.now] at hNw
          have hNw2 : Calls Try.prog 16 #[.pointer (some ⟨nb, 0, none⟩)] w5 fun e w' => e = .returned (.int .i64 (A.now : Int)) ∧ w' = w5 := hNw
          obtain ⟨ma, mc, rfl, _⟩ := Ow.sb om
          clear h9 hW om hNw HJ2 HN2
          have hNw := hNw2
          clear hNw2
          generalize A.now = t at *
          dsimp only
          go_wp2_with (first | (go_at_call 13; refine (num_walk _ _).mono ?_; rintro _ w9 ⟨rfl, h9⟩; obtain rfl := h9.symm; clear h9; dsimp only) | (go_at_call 16; refine hNw.mono ?_; rintro _ w9 ⟨rfl, h9⟩; obtain rfl := h9.symm; clear h9; dsimp only))
          go_ret
          exact ⟨rfl, HJ3.out.up⟩
end Go.Proofs.Ytgfehlcindapmaa
