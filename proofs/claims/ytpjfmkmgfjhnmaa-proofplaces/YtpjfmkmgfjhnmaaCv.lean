import Derived.Test.YtpjfmkmgfjhnmaaCv0
import Derived.Test.YtpjfmkmgfjhnmaaCg
namespace Go.Proofs.Ytpjfmkmgfjhnmaa
open Go.RowKit Tlg
theorem iv_fit {c : Nat} (h : c < 562949953421311) : spl (c : Int) = ((rr c : Int), (nd c : Int), 0) ∧ rr c ≤ 48 ∧ nd c < 281474976710656 ∧ (nd c : Int) * 2 ^ rr c = ((iv c).1 : Int) ∧ ((nd c : Int) + 1) * 2 ^ rr c = ((iv c).2 : Int) ∧ (iv c).1 ≤ 281474976710656 ∧ (iv c).2 ≤ 281474976710656 := by
  obtain ⟨h1, h2, h3, h4⟩ := nd_fit h
  have h5 : nd c + 1 ≤ (nd c + 1) * 2 ^ rr c := Nat.le_mul_of_pos_right _ (Nat.pow_pos (by decide))
  have h6 : nd c * 2 ^ rr c ≤ (nd c + 1) * 2 ^ rr c := Nat.mul_le_mul_right _ (by omega)
  refine ⟨spl_yes h, h1, by omega, by unfold iv; simp, by unfold iv; simp, ?_, ?_⟩
  · show nd c * 2 ^ rr c ≤ _
    omega
  · show (nd c + 1) * 2 ^ rr c ≤ _
    omega
/-- how far the search has come -/
def Fnd (P : List (Nat × Nat)) (a : Nat) (f : Int) (j : Nat) : Prop := (f = -1 → ∀ q (hq : q < P.length), q < j → P[q].1 ≠ a) ∧ (f ≠ -1 → ∃ q, ∃ (hq : q < P.length), f = (q : Int) ∧ P[q].1 = a)
set_option maxRecDepth 100000 in
set_option maxHeartbeats 4000000 in
theorem covers_walk (w : World) (B : Nat) (v : Value) (L : List (List Nat)) (x : List (Nat × Nat)) (lo hi m : Nat) (skip : Int) (hG : CG w B v L) (hx : (x = [] ∧ skip = -1) ∨ (∃ i : Nat, x = [(i, i + 1)] ∧ skip = (i : Int) ∧ i < 281474976710656)) (hlo : lo ≤ hi) (hhi : hi ≤ 281474976710656) (_hm : m ≤ 281474976710656) (hC : Cov L x lo hi m) :
    Calls Try.prog 5 #[v, .int .i64 (lo : Int), .int .i64 (hi : Int), .int .i64 skip, .int .i64 (m : Int)] w fun e w' => e = .returned (.bool true) ∧ Up w w' := by
  have HG := Hid.of hG
  have HLen := Hid.of hG.flat
  obtain ⟨C, hC⟩ := hC
  have HC := Hid.of hC
  have hLb := hG.len
  obtain ⟨NL, hNL⟩ : ∃ NL, L.length = NL := ⟨_, rfl⟩
  obtain ⟨va, vc, hv⟩ := hG.ll.len
  rw [hNL] at hv hLb
  subst hv
  have HNL := Hid.of hNL
  have HX := Hid.of hx
  clear hC hG hx hNL
  go_enter Try.func5, Try.ntmps5
  go_wp2
  go_loopw [11, 12, 13, 14, 15, 16, 17] (fun v11 v12 v13 v14 v15 v16 v17 wr => ∃ j : Nat, v13 = .int .i64 (j : Int) ∧ j ≤ NL ∧ Hid (∃ P, Tw wr w.heap.size v11 v12 P ∧ P ++ ivs (L.drop j).flatten = ivs L.flatten) ∧ Hid (Up w wr)) (fun _ _ v13 _ _ _ _ _ => NL - (intOf v13).toNat)
  case atStart => exact ⟨0, rfl, by omega, ⟨[], tw_nil _ _, rfl⟩, Up.refl _⟩
  case round =>
    obtain ⟨j, rfl, hjN, HT0, HU⟩ := hrel
    obtain ⟨wb, hwb⟩ : ∃ wb, wb = wr := ⟨_, rfl⟩
    subst hwb
    by_cases hlt : j < NL
    · have hjL : j < L.length := by rw [HNL.out]; exact hlt
      obtain ⟨g, cap, la, lc, hv, hc, ho⟩ := HG.out.ll.get hjL
      rw [HNL.out] at hv
      injection hv with ha _ hb
      subst ha hb
      have hin : L[j] ∈ L := List.getElem_mem hjL
      obtain ⟨s1, s2⟩ := HG.out.sm _ hin
      have hdr : L.drop j = L[j] :: L.drop (j + 1) := List.drop_eq_getElem_cons hjL
      obtain ⟨l, hl⟩ : ∃ l, L[j] = l := ⟨_, rfl⟩
      rw [hl] at hc ho s1 s2 hdr
      obtain ⟨nl, hnl⟩ : ∃ nl, l.length = nl := ⟨_, rfl⟩
      rw [hnl] at hc ho s1
      have HO := Hid.of (And.intro ho (And.intro hnl s2))
      have HCJ := Hid.of hc
      have hcj := HU.out.cell hc
      obtain ⟨P0, hP0, hP1⟩ := HT0.out
      rw [hdr, List.flatten_cons, ivs_append] at hP1
      have HT : Hid (Tw wb w.heap.size u11 u12 P0 ∧ P0 ++ (ivs l ++ ivs (L.drop (j + 1)).flatten) = ivs L.flatten) := ⟨hP0, hP1⟩
      clear hl hnl hin hdr hc ho s2 hP0 hP1 HT0 hjL
      go_wp2
      go_loopw [11, 12, 14, 15, 16, 17] (fun v11 v12 v14 v15 v16 v17 wr => ∃ x : Nat, v14 = .int .i64 (x : Int) ∧ x ≤ nl ∧ wr.cell? ⟨g, j, none⟩ = some (.slice la nl lc) ∧ Hid (∃ P, Tw wr w.heap.size v11 v12 P ∧ P ++ (ivs (l.drop x) ++ ivs (L.drop (j + 1)).flatten) = ivs L.flatten) ∧ Hid (Up w wr)) (fun _ _ v14 _ _ _ _ => nl - (intOf v14).toNat)
      case atStart => exact ⟨0, rfl, by omega, hcj, ⟨P0, HT.out⟩, HU.out⟩
      case round =>
        obtain ⟨x, rfl, hxN, hcx, HT1, HU1⟩ := hrel
        obtain ⟨wc, hwc⟩ : ∃ wc, wc = wr := ⟨_, rfl⟩
        subst hwc
        by_cases hxl : x < nl
        · have hxL : x < l.length := by rw [HO.out.2.1]; exact hxl
          obtain ⟨g2, c2, hv2, _, _, hcell⟩ := HO.out.1.cells (by intro e; rw [e] at hxL; simp at hxL)
          rw [HO.out.2.1] at hv2
          injection hv2 with ha _ hb
          subst ha hb
          have hcc := HU1.out.cell (hcell x hxL)
          have hsm := HO.out.2.2 l[x] (List.getElem_mem hxL)
          have hdr : l.drop x = l[x] :: l.drop (x + 1) := List.drop_eq_getElem_cons hxL
          obtain ⟨c, hc⟩ : ∃ c, l[x] = c := ⟨_, rfl⟩
          rw [hc] at hcc hsm hdr
          obtain ⟨P, hP0, hP1⟩ := HT1.out
          rw [hdr] at hP1
          have HT2 : Hid (Tw wc w.heap.size u11 u12 P ∧ (P ++ [iv c]) ++ (ivs (l.drop (x + 1)) ++ ivs (L.drop (j + 1)).flatten) = ivs L.flatten ∧ P.length < 10000) := by
            refine ⟨hP0, by rw [← hP1]; simp [ivs], ?_⟩
            have := congrArg List.length hP1
            have h2 := HLen.out
            rw [← this, List.length_append] at h2
            simp [ivs] at h2
            omega
          clear hP0 hP1 HT1 hdr hc hcell hxL
          obtain ⟨f1, f2, f3, f4, f5, f6, f7⟩ := iv_fit hsm
          have HS := Hid.of (And.intro f1 trivial)
          obtain ⟨F, hF⟩ : ∃ F, (iv c).1 = F := ⟨_, rfl⟩
          obtain ⟨T, hT⟩ : ∃ T, (iv c).2 = T := ⟨_, rfl⟩
          rw [hF] at f4 f6
          rw [hT] at f5 f7
          have HFT : Hid (iv c = (F, T)) := by rw [← hF, ← hT]; rfl
          clear f1 hF hT
          have HSP := fun w => Hid.of (Split_walk (c : Int) (by omega) (by omega) w)
          rw [HS.out.1] at HSP
          clear HS
          generalize rr c = lv at f2 f4 f5 HSP
          generalize nd c = nn at f3 f4 f5 HSP
          have hu : (lv : Int) % 18446744073709551616 = (lv : Int) := by omega
          go_wp2_with fail
          refine (HSP _).out.mono ?_
          rintro e w4 ⟨rfl, u4⟩
          dsimp only
          have hcx2 := u4.cell hcx
          have H4 : Hid (Tw w4 w.heap.size u11 u12 P ∧ Up w w4) := ⟨HT2.out.1.up u4, HU1.out.trans u4⟩
          clear u4 hcx hcc HSP
          have b1 : ((0 : Int) != 0) = false := by decide
          have b2 : ¬ (lv : Int) < 0 := by omega
          have b3 : ¬ (48 : Int) < (lv : Int) := by omega
          go_wp2_with (with_reducible show wpList _ _ _ ({ dst := _, op := Op.call { callee := Callee.builtin Builtin.append, args := _, argTypes := _ }, type := _, pos := _, after := _, guard := _ } :: _) _ _; refine Shut.out ?_)
          show wpList _ _ _ _ _ _
          refine wpList_sep rfl _ _ rfl w.heap.size _ u12 (P.map Prod.fst) (P.map Prod.snd) F rfl (by exact H4.out.1.f) (by exact H4.out.1.t) (by exact H4.out.1.ne) 1 rfl (by have := HT2.out.2.2; rw [List.length_map]; omega) (by exact H4.out.2.size) ?_
          intro v5 w5 o5 q5 n5 k5
          have H5 : Hid (OwnL w5 w.heap.size v5 (P.map Prod.fst ++ [F]) ∧ OwnL w5 w.heap.size u12 (P.map Prod.snd) ∧ (∀ g, u12.ownBlock = some g → v5.ownBlock ≠ some g) ∧ Up w w5) := ⟨o5, q5, fun g h1 h2 => n5 g h2 h1, H4.out.2.step (Nat.le_refl _) k5⟩
          clear o5 q5 n5 k5 H4 hcx2
          simp only [Act.put, List.setIfInBounds_toArray, List.set_cons_zero, List.set_cons_succ]
          go_wp2_with (with_reducible show wpList _ _ _ ({ dst := _, op := Op.call { callee := Callee.builtin Builtin.append, args := _, argTypes := _ }, type := _, pos := _, after := _, guard := _ } :: _) _ _; refine Shut.out ?_)
          show wpList _ _ _ _ _ _
          refine wpList_sep rfl _ _ rfl w.heap.size _ v5 (P.map Prod.snd) (P.map Prod.fst ++ [F]) T rfl (by exact H5.out.2.1) (by exact H5.out.1) (by exact H5.out.2.2.1) 1 rfl (by have := HT2.out.2.2; rw [List.length_map]; omega) (by exact H5.out.2.2.2.size) ?_
          intro v6 w6 o6 q6 n6 k6
          have H6 : Hid (Tw w6 w.heap.size v5 v6 (P ++ [iv c]) ∧ Up w w6) := by
            refine ⟨⟨?_, ?_, fun g h1 h2 => n6 g h2 h1⟩, H5.out.2.2.2.step (Nat.le_refl _) k6⟩
            · rw [List.map_append, HFT.out]; exact q6
            · rw [List.map_append, HFT.out]; exact o6
          have hcx6 := H6.out.2.cell HCJ.out
          clear o6 q6 n6 k6 H5
          simp only [Act.put, List.setIfInBounds_toArray, List.set_cons_zero, List.set_cons_succ]
          go_wp2
          go_roundw
          case rel => exact ⟨x + 1, by go_num, by omega, hcx6, ⟨_, H6.out.1, HT2.out.2.1⟩, H6.out.2⟩
          case measure => simp [intOf]; omega
        · obtain rfl : x = nl := by omega
          have HT3 : Hid (∃ P, Tw wc w.heap.size u11 u12 P ∧ P ++ ivs (L.drop (j + 1)).flatten = ivs L.flatten) := by
            obtain ⟨P, hP0, hP1⟩ := HT1.out
            refine ⟨P, hP0, ?_⟩
            rw [← HO.out.2.1, List.drop_length] at hP1
            exact hP1
          go_wp2
          go_roundw
          case rel => exact ⟨j + 1, by go_num, by omega, HT3, HU1⟩
          case measure => simp [intOf]; omega
    · obtain rfl : j = NL := by omega
      have HT1 : Hid (Tw wb w.heap.size u11 u12 (ivs L.flatten)) := by
        obtain ⟨P, hP0, hP1⟩ := HT0.out
        rw [← HNL.out, List.drop_length] at hP1
        rw [List.flatten_nil] at hP1
        simp only [ivs, List.map_nil, List.append_nil] at hP1
        subst hP1
        exact hP0
      clear HT0 HG HNL hjN hlt hLb
      rcases HX.out with ⟨rfl, rfl⟩ | ⟨i, rfl, rfl, hi0⟩
      · have HT : Hid (Tw wb w.heap.size u11 u12 (ivs L.flatten ++ []) ∧ Up w wb) := ⟨by rw [List.append_nil]; exact HT1.out, HU.out⟩
        generalize wb = wz at HT ⊢
        clear HT1 HU HX
        have HN0 : Hid ((ivs L.flatten ++ []).length < 20000) := by
          have := HLen.out
          show (ivs L.flatten ++ []).length < 20000
          rw [List.length_append]
          simp only [List.length_nil]
          omega
        obtain ⟨P, hP⟩ : ∃ P, P = (ivs L.flatten ++ []) := ⟨_, rfl⟩
        rw [← hP] at HT HN0
        have HPC : Hid (P.Perm C) := by rw [hP]; exact HC.out.2.1
        clear hP
        obtain ⟨N, hN⟩ : ∃ N, P.length = N := ⟨_, rfl⟩
        obtain ⟨fa, fc, hf⟩ := HT.out.1.f.len
        rw [List.length_map, hN] at hf
        obtain ⟨ta, tc, ht⟩ := HT.out.1.t.len
        rw [List.length_map, hN] at ht
        subst hf ht
        have HN := Hid.of hN
        have hNb : N < 20000 := by have := HN0.out; omega
        clear hN
        go_wp2
        go_loop [18, 19, 20, 21] (fun v18 v19 v20 v21 => ∃ at' t : Nat, v18 = .int .i64 (at' : Int) ∧ v19 = .int .i64 (t : Int) ∧ t ≤ N ∧ at' ≤ 281474976710656 ∧ Hid (∃ D0 D, C = D0 ++ D ∧ D0.length = t ∧ Ch D0 lo at' ∧ Ch D at' hi)) (fun _ v19 _ _ => N - (intOf v19).toNat)
        case atStart => exact ⟨lo, 0, rfl, rfl, by omega, by omega, ⟨[], C, rfl, rfl, rfl, HC.out.1⟩⟩
        case round =>
          obtain ⟨at', t, rfl, rfl, htN, hat, HD⟩ := hrel
          by_cases hlt : t < N
          · obtain ⟨D0, D, e1, e2, e3, e4⟩ := HD.out
            have hD : D ≠ [] := by
              intro e
              subst e
              rw [List.append_nil] at e1
              have := HPC.out.length_eq
              rw [HN.out, e1, e2] at this
              omega
            obtain ⟨p, D', rfl⟩ : ∃ p D', D = p :: D' := by
              cases D with
              | nil => exact absurd rfl hD
              | cons p D' => exact ⟨p, D', rfl⟩
            have hp := Ch.within e4 p (by simp)
            have HM : Hid (¬ (p.1 < m ∧ m < p.2)) := HC.out.2.2 p (by rw [e1]; simp)
            have hU : Hid (∀ j (hj : j < P.length), P[j].1 = at' → P[j] = p) := by
              intro j hj hat'
              have hm : P[j] ∈ C := HPC.out.mem_iff.1 (List.getElem_mem hj)
              rw [e1] at hm
              rcases List.mem_append.1 hm with hm | hm
              · have := Ch.within e3 _ hm; omega
              · exact Ch.head e4 hm hat'
            have hX : Hid (∃ j, ∃ (hj : j < P.length), P[j] = p) := by
              have hm : p ∈ P := HPC.out.mem_iff.2 (by rw [e1]; simp)
              exact List.mem_iff_getElem.1 hm
            have HD2 : Hid (∃ D0 D, C = D0 ++ D ∧ D0.length = t + 1 ∧ Ch D0 lo p.2 ∧ Ch D p.2 hi) := ⟨D0 ++ [p], D', by rw [e1]; simp, by simp [e2], e3.append ⟨e4.1, e4.2.1, rfl⟩, e4.2.2⟩
            have hp1 : p.1 = at' := e4.1
            have hphi : p.2 ≤ 281474976710656 := by omega
            have hpgt : at' < p.2 := by omega
            clear e1 e2 e3 e4 hD hp HD
            obtain ⟨g1, c1, hv1, hc1, _, hcell1⟩ := HT.out.1.f.cells (by intro e; rw [List.map_eq_nil_iff] at e; subst e; have := HN.out; simp at this; omega)
            obtain ⟨g2, c2, hv2, hc2, _, hcell2⟩ := HT.out.1.t.cells (by intro e; rw [List.map_eq_nil_iff] at e; subst e; have := HN.out; simp at this; omega)
            injection hv1 with ha1 hx1 hb1
            injection hv2 with ha2 hx2 hb2
            clear hx1 hx2
            subst ha1 hb1 ha2 hb2
            have HC1 : Hid (∀ j (hj : j < P.length), wz.cell? ⟨g1, j, none⟩ = some (.int .i64 (P[j].1 : Int)) ∧ wz.cell? ⟨g2, j, none⟩ = some (.int .i64 (P[j].2 : Int))) := fun j hj => ⟨by have := hcell1 j (by simpa using hj); simpa using this, by have := hcell2 j (by simpa using hj); simpa using this⟩
            clear hcell1 hcell2 hc1 hc2
            go_wp2
            go_loop [20, 21] (fun v20 v21 => ∃ (f : Int) (j : Nat), v20 = .int .i64 f ∧ v21 = .int .i64 (j : Int) ∧ j ≤ N ∧ -1 ≤ f ∧ f ≤ 20000 ∧ Hid (Fnd P at' f j)) (fun _ v21 => N - (intOf v21).toNat)
            case atStart => exact ⟨-1, 0, rfl, rfl, by omega, by omega, by omega, ⟨fun _ q hq h => by omega, fun h => absurd rfl h⟩⟩
            case round =>
              obtain ⟨f, j, rfl, rfl, hjN, hf0, hf1, HF⟩ := hrel
              by_cases hj : j < N
              · have hjP : j < P.length := by rw [HN.out]; exact hj
                obtain ⟨d1, d2⟩ := HC1.out j hjP
                obtain ⟨x, hx⟩ : ∃ x, P[j] = x := ⟨_, rfl⟩
                rw [hx] at d1 d2
                by_cases he : x.1 = at'
                · obtain rfl : x = p := by rw [← hx]; exact hU.out j hjP (by rw [hx]; exact he)
                  have HF2 : Hid (Fnd P at' (j : Int) (j + 1)) := ⟨fun h => by omega, fun _ => ⟨j, hjP, rfl, by rw [hx]; exact he⟩⟩
                  have hjb : (j : Int) ≤ 20000 := by have := HN0.out; have := HN.out; omega
                  rw [he] at d1
                  have hb1 : ((at' : Int) == (at' : Int)) = true := by simp
                  clear hx HF hp1 he hjP
                  generalize x.2 = x2 at d2 hpgt hphi
                  have hgt : ((at' : Int) < (x2 : Int)) := by omega
                  go_wp2
                  go_round
                  case rel => exact ⟨(j : Int), j + 1, rfl, by go_num, by omega, by omega, hjb, HF2⟩
                  case measure => simp [intOf]; omega
                · have HF2 : Hid (Fnd P at' f (j + 1)) := by
                    refine ⟨fun h q hq hqj => ?_, HF.out.2⟩
                    rcases Nat.lt_or_ge q j with h1 | h1
                    · exact HF.out.1 h q hq h1
                    · obtain rfl : q = j := by omega
                      rw [hx]
                      exact he
                  have hb1 : ((x.1 : Int) == (at' : Int)) = false := by simp; omega
                  clear hx HF he hjP d2
                  generalize x.1 = x1 at d1 hb1
                  go_wp2
                  go_round
                  case rel => exact ⟨f, j + 1, rfl, by go_num, by omega, by omega, by omega, HF2⟩
                  case measure => simp [intOf]; omega
              · obtain rfl : N = j := by omega
                obtain ⟨q, hq, rfl, hq1⟩ : ∃ q, ∃ (hq : q < P.length), f = (q : Int) ∧ P[q].1 = at' := by
                  apply HF.out.2
                  intro hf
                  obtain ⟨j2, hj2, e2⟩ := hX.out
                  exact HF.out.1 hf j2 hj2 (by have := HN.out; omega) (by rw [e2]; exact hp1)
                have hqp := hU.out q hq hq1
                obtain ⟨d1, d2⟩ := HC1.out q hq
                rw [hqp] at d1 d2
                have hqN : q < N := by have := HN.out; omega
                rw [hp1] at d1 HM
                have hq0 : (0 : Int) ≤ (q : Int) := by omega
                clear HF hq1 hqp hX hU hp1 HC1 hjN hf0 hf1 hj
                generalize p.2 = p2 at d2 hpgt hphi HM HD2
                by_cases hm1 : at' < m
                · have hm2 : ¬ m < p2 := fun h => HM.out ⟨hm1, h⟩
                  have hi1 : (at' : Int) < (m : Int) := by omega
                  have hi2 : ¬ (m : Int) < (p2 : Int) := by omega
                  go_wp2
                  go_round
                  case rel => exact ⟨p2, t + 1, rfl, by go_num, by omega, by omega, HD2⟩
                  case measure => simp [intOf]; omega
                · have hi1 : ¬ (at' : Int) < (m : Int) := by omega
                  go_wp2
                  go_round
                  case rel => exact ⟨p2, t + 1, rfl, by go_num, by omega, by omega, HD2⟩
                  case measure => simp [intOf]; omega
          · obtain rfl : t = N := by omega
            obtain rfl : at' = hi := by
              obtain ⟨D0, D, e1, e2, e3, e4⟩ := HD.out
              have := HPC.out.length_eq
              rw [HN.out, e1, List.length_append, e2] at this
              obtain rfl : D = [] := List.eq_nil_of_length_eq_zero (by omega)
              exact e4
            go_wp2
            go_ret
            exact ⟨by first | rfl | simp, HT.out.2⟩
      · clear HX
        go_wp2_with (with_reducible show wpList _ _ _ ({ dst := _, op := Op.call { callee := Callee.builtin Builtin.append, args := _, argTypes := _ }, type := _, pos := _, after := _, guard := _ } :: _) _ _; refine Shut.out ?_)
        show wpList _ _ _ _ _ _
        refine wpList_sep rfl _ _ rfl w.heap.size _ u12 ((ivs L.flatten).map Prod.fst) ((ivs L.flatten).map Prod.snd) i rfl (by exact HT1.out.f) (by exact HT1.out.t) (by exact HT1.out.ne) 1 rfl (by have := HLen.out; rw [List.length_map]; omega) (by exact HU.out.size) ?_
        intro v5 w5 o5 q5 n5 k5
        have H5 : Hid (OwnL w5 w.heap.size v5 ((ivs L.flatten).map Prod.fst ++ [i]) ∧ OwnL w5 w.heap.size u12 ((ivs L.flatten).map Prod.snd) ∧ (∀ g, u12.ownBlock = some g → v5.ownBlock ≠ some g) ∧ Up w w5) := ⟨o5, q5, fun g h1 h2 => n5 g h2 h1, HU.out.step (Nat.le_refl _) k5⟩
        clear o5 q5 n5 k5 HT1 HU
        simp only [Act.put, List.setIfInBounds_toArray, List.set_cons_zero, List.set_cons_succ]
        go_wp2_with (with_reducible show wpList _ _ _ ({ dst := _, op := Op.call { callee := Callee.builtin Builtin.append, args := _, argTypes := _ }, type := _, pos := _, after := _, guard := _ } :: _) _ _; refine Shut.out ?_)
        show wpList _ _ _ _ _ _
        refine wpList_sep rfl _ _ rfl w.heap.size _ v5 ((ivs L.flatten).map Prod.snd) ((ivs L.flatten).map Prod.fst ++ [i]) (i + 1) rfl (by exact H5.out.2.1) (by exact H5.out.1) (by exact H5.out.2.2.1) 1 rfl (by have := HLen.out; rw [List.length_map]; omega) (by exact H5.out.2.2.2.size) ?_
        intro v6 wz o6 q6 n6 k6
        have HT : Hid (Tw wz w.heap.size v5 v6 (ivs L.flatten ++ [(i, i + 1)]) ∧ Up w wz) := by
          refine ⟨⟨?_, ?_, fun g h1 h2 => n6 g h2 h1⟩, H5.out.2.2.2.step (Nat.le_refl _) k6⟩
          · rw [List.map_append]; exact q6
          · rw [List.map_append]; exact o6
        clear o6 q6 n6 k6 H5
        simp only [Act.put, List.setIfInBounds_toArray, List.set_cons_zero, List.set_cons_succ]
        have HN0 : Hid ((ivs L.flatten ++ [(i, i + 1)]).length < 20000) := by
          have := HLen.out
          show (ivs L.flatten ++ [(i, i + 1)]).length < 20000
          rw [List.length_append]
          simp only [List.length_cons, List.length_nil]
          omega
        obtain ⟨P, hP⟩ : ∃ P, P = (ivs L.flatten ++ [(i, i + 1)]) := ⟨_, rfl⟩
        rw [← hP] at HT HN0
        have HPC : Hid (P.Perm C) := by rw [hP]; exact HC.out.2.1
        clear hP
        obtain ⟨N, hN⟩ : ∃ N, P.length = N := ⟨_, rfl⟩
        obtain ⟨fa, fc, hf⟩ := HT.out.1.f.len
        rw [List.length_map, hN] at hf
        obtain ⟨ta, tc, ht⟩ := HT.out.1.t.len
        rw [List.length_map, hN] at ht
        subst hf ht
        have HN := Hid.of hN
        have hNb : N < 20000 := by have := HN0.out; omega
        clear hN
        go_wp2
        go_loop [18, 19, 20, 21] (fun v18 v19 v20 v21 => ∃ at' t : Nat, v18 = .int .i64 (at' : Int) ∧ v19 = .int .i64 (t : Int) ∧ t ≤ N ∧ at' ≤ 281474976710656 ∧ Hid (∃ D0 D, C = D0 ++ D ∧ D0.length = t ∧ Ch D0 lo at' ∧ Ch D at' hi)) (fun _ v19 _ _ => N - (intOf v19).toNat)
        case atStart => exact ⟨lo, 0, rfl, rfl, by omega, by omega, ⟨[], C, rfl, rfl, rfl, HC.out.1⟩⟩
        case round =>
          obtain ⟨at', t, rfl, rfl, htN, hat, HD⟩ := hrel
          by_cases hlt : t < N
          · obtain ⟨D0, D, e1, e2, e3, e4⟩ := HD.out
            have hD : D ≠ [] := by
              intro e
              subst e
              rw [List.append_nil] at e1
              have := HPC.out.length_eq
              rw [HN.out, e1, e2] at this
              omega
            obtain ⟨p, D', rfl⟩ : ∃ p D', D = p :: D' := by
              cases D with
              | nil => exact absurd rfl hD
              | cons p D' => exact ⟨p, D', rfl⟩
            have hp := Ch.within e4 p (by simp)
            have HM : Hid (¬ (p.1 < m ∧ m < p.2)) := HC.out.2.2 p (by rw [e1]; simp)
            have hU : Hid (∀ j (hj : j < P.length), P[j].1 = at' → P[j] = p) := by
              intro j hj hat'
              have hm : P[j] ∈ C := HPC.out.mem_iff.1 (List.getElem_mem hj)
              rw [e1] at hm
              rcases List.mem_append.1 hm with hm | hm
              · have := Ch.within e3 _ hm; omega
              · exact Ch.head e4 hm hat'
            have hX : Hid (∃ j, ∃ (hj : j < P.length), P[j] = p) := by
              have hm : p ∈ P := HPC.out.mem_iff.2 (by rw [e1]; simp)
              exact List.mem_iff_getElem.1 hm
            have HD2 : Hid (∃ D0 D, C = D0 ++ D ∧ D0.length = t + 1 ∧ Ch D0 lo p.2 ∧ Ch D p.2 hi) := ⟨D0 ++ [p], D', by rw [e1]; simp, by simp [e2], e3.append ⟨e4.1, e4.2.1, rfl⟩, e4.2.2⟩
            have hp1 : p.1 = at' := e4.1
            have hphi : p.2 ≤ 281474976710656 := by omega
            have hpgt : at' < p.2 := by omega
            clear e1 e2 e3 e4 hD hp HD
            obtain ⟨g1, c1, hv1, hc1, _, hcell1⟩ := HT.out.1.f.cells (by intro e; rw [List.map_eq_nil_iff] at e; subst e; have := HN.out; simp at this; omega)
            obtain ⟨g2, c2, hv2, hc2, _, hcell2⟩ := HT.out.1.t.cells (by intro e; rw [List.map_eq_nil_iff] at e; subst e; have := HN.out; simp at this; omega)
            injection hv1 with ha1 hx1 hb1
            injection hv2 with ha2 hx2 hb2
            clear hx1 hx2
            subst ha1 hb1 ha2 hb2
            have HC1 : Hid (∀ j (hj : j < P.length), wz.cell? ⟨g1, j, none⟩ = some (.int .i64 (P[j].1 : Int)) ∧ wz.cell? ⟨g2, j, none⟩ = some (.int .i64 (P[j].2 : Int))) := fun j hj => ⟨by have := hcell1 j (by simpa using hj); simpa using this, by have := hcell2 j (by simpa using hj); simpa using this⟩
            clear hcell1 hcell2 hc1 hc2
            go_wp2
            go_loop [20, 21] (fun v20 v21 => ∃ (f : Int) (j : Nat), v20 = .int .i64 f ∧ v21 = .int .i64 (j : Int) ∧ j ≤ N ∧ -1 ≤ f ∧ f ≤ 20000 ∧ Hid (Fnd P at' f j)) (fun _ v21 => N - (intOf v21).toNat)
            case atStart => exact ⟨-1, 0, rfl, rfl, by omega, by omega, by omega, ⟨fun _ q hq h => by omega, fun h => absurd rfl h⟩⟩
            case round =>
              obtain ⟨f, j, rfl, rfl, hjN, hf0, hf1, HF⟩ := hrel
              by_cases hj : j < N
              · have hjP : j < P.length := by rw [HN.out]; exact hj
                obtain ⟨d1, d2⟩ := HC1.out j hjP
                obtain ⟨x, hx⟩ : ∃ x, P[j] = x := ⟨_, rfl⟩
                rw [hx] at d1 d2
                by_cases he : x.1 = at'
                · obtain rfl : x = p := by rw [← hx]; exact hU.out j hjP (by rw [hx]; exact he)
                  have HF2 : Hid (Fnd P at' (j : Int) (j + 1)) := ⟨fun h => by omega, fun _ => ⟨j, hjP, rfl, by rw [hx]; exact he⟩⟩
                  have hjb : (j : Int) ≤ 20000 := by have := HN0.out; have := HN.out; omega
                  rw [he] at d1
                  have hb1 : ((at' : Int) == (at' : Int)) = true := by simp
                  clear hx HF hp1 he hjP
                  generalize x.2 = x2 at d2 hpgt hphi
                  have hgt : ((at' : Int) < (x2 : Int)) := by omega
                  go_wp2
                  go_round
                  case rel => exact ⟨(j : Int), j + 1, rfl, by go_num, by omega, by omega, hjb, HF2⟩
                  case measure => simp [intOf]; omega
                · have HF2 : Hid (Fnd P at' f (j + 1)) := by
                    refine ⟨fun h q hq hqj => ?_, HF.out.2⟩
                    rcases Nat.lt_or_ge q j with h1 | h1
                    · exact HF.out.1 h q hq h1
                    · obtain rfl : q = j := by omega
                      rw [hx]
                      exact he
                  have hb1 : ((x.1 : Int) == (at' : Int)) = false := by simp; omega
                  clear hx HF he hjP d2
                  generalize x.1 = x1 at d1 hb1
                  go_wp2
                  go_round
                  case rel => exact ⟨f, j + 1, rfl, by go_num, by omega, by omega, by omega, HF2⟩
                  case measure => simp [intOf]; omega
              · obtain rfl : N = j := by omega
                obtain ⟨q, hq, rfl, hq1⟩ : ∃ q, ∃ (hq : q < P.length), f = (q : Int) ∧ P[q].1 = at' := by
                  apply HF.out.2
                  intro hf
                  obtain ⟨j2, hj2, e2⟩ := hX.out
                  exact HF.out.1 hf j2 hj2 (by have := HN.out; omega) (by rw [e2]; exact hp1)
                have hqp := hU.out q hq hq1
                obtain ⟨d1, d2⟩ := HC1.out q hq
                rw [hqp] at d1 d2
                have hqN : q < N := by have := HN.out; omega
                rw [hp1] at d1 HM
                have hq0 : (0 : Int) ≤ (q : Int) := by omega
                clear HF hq1 hqp hX hU hp1 HC1 hjN hf0 hf1 hj
                generalize p.2 = p2 at d2 hpgt hphi HM HD2
                by_cases hm1 : at' < m
                · have hm2 : ¬ m < p2 := fun h => HM.out ⟨hm1, h⟩
                  have hi1 : (at' : Int) < (m : Int) := by omega
                  have hi2 : ¬ (m : Int) < (p2 : Int) := by omega
                  go_wp2
                  go_round
                  case rel => exact ⟨p2, t + 1, rfl, by go_num, by omega, by omega, HD2⟩
                  case measure => simp [intOf]; omega
                · have hi1 : ¬ (at' : Int) < (m : Int) := by omega
                  go_wp2
                  go_round
                  case rel => exact ⟨p2, t + 1, rfl, by go_num, by omega, by omega, HD2⟩
                  case measure => simp [intOf]; omega
          · obtain rfl : t = N := by omega
            obtain rfl : at' = hi := by
              obtain ⟨D0, D, e1, e2, e3, e4⟩ := HD.out
              have := HPC.out.length_eq
              rw [HN.out, e1, List.length_append, e2] at this
              obtain rfl : D = [] := List.eq_nil_of_length_eq_zero (by omega)
              exact e4
            go_wp2
            go_ret
            exact ⟨by first | rfl | simp, HT.out.2⟩
end Go.Proofs.Ytpjfmkmgfjhnmaa
