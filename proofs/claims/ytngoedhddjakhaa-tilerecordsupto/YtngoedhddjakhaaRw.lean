import Derived.Test.YtngoedhddjakhaaRv
namespace Go.Proofs.Ytngoedhddjakhaa
open Go.RowKit Go.Shelf TextNum TileNum
theorem Own.o {w : World} {B : Nat} {v : Value} {l : List UInt8} (h : Own w B v l) : OwnO w B v l := by
  rcases h.2 with ⟨rfl, e⟩ | ⟨g, cap, cur, rfl, hbg, hg, hnc, hcm, hcs, htake⟩
  · exact .inl ⟨rfl, List.eq_nil_of_length_eq_zero e⟩
  · rw [Nat.mul_one] at htake hcs
    exact .inr (OwnM.n ⟨g, cap, cur, (0, 0), rfl, hbg, hg, .inl rfl, hnc, hcm, hcs, htake⟩)
/-- what both Joins answer -/
def jb (rs : List (List UInt8)) : List UInt8 := if lg rs = true then [] else jn rs
def je (rs : List (List UInt8)) : Int := if lg rs = true then 2 else 0
theorem jb_le (rs : List (List UInt8)) : (jb rs).length ≤ 262656 := by
  unfold jb
  by_cases h : lg rs = true
  · rw [if_pos h]; simp
  · rw [if_neg h]
    rw [Bool.not_eq_true] at h
    obtain ⟨h1, h2⟩ := lg_iff.1 h
    have h3 := jn_le rs h2
    have h4 : rs.length * 1026 ≤ 256 * 1026 := Nat.mul_le_mul_right _ h1
    omega
theorem JR.any {rs : List (List UInt8)} {w : World} {e : Ending} {w' : World} (h : JR rs w e w') : ∃ a c, e = .returned (.tuple #[.slice a (jb rs).length c, .int .i64 (je rs)]) ∧ Own w' w.heap.size (.slice a (jb rs).length c) (jb rs) ∧ Up w w' := by
  obtain ⟨u, h⟩ := h
  unfold jb je
  by_cases hg : lg rs = true
  · rw [if_pos hg] at h
    simp only [if_pos hg]
    exact ⟨none, 0, h, World.ownsRow_nil _ _ 5 1, u⟩
  · rw [if_neg hg] at h
    simp only [if_neg hg]
    obtain ⟨v, rfl, ho⟩ := h
    obtain ⟨a, c, rfl⟩ := ho.len
    exact ⟨a, c, rfl, ho, u⟩
theorem Up.by {w0 w w' : World} {row : Option Nat} (h : Up w0 w) (hg : w.grownBy w' row) (hr : ∀ g, row = some g → w0.heap.size ≤ g) : Up w0 w' := Below.trans h ((Below.refl _ w).grown hg h.size hr)
set_option maxRecDepth 100000 in
set_option maxHeartbeats 4000000 in
theorem records_walk (v : Value) (rs : List (List UInt8)) (a : Option Addr) (c : Nat) (d : List UInt8) (k : Int) (w : World) (h1 : SlT w v rs) (hl1 : rs.length ≤ 1048576) (hr1 : ∀ r ∈ rs, r.length ≤ 1048576) (h2 : Sl w (.slice a d.length c) d) (hl2 : d.length ≤ 1048576) (_hk1 : -9223372036854775808 ≤ k) (_hk2 : k ≤ 9223372036854775807) :
    Calls Try.prog 5 #[v, .slice a d.length c, .int .i64 k] w fun e w' => e = .returned (.bool true) ∧ Up w w' := by
  have HS := Hid.of h1
  have HD := Hid.of h2
  have HR := Hid.of hr1
  obtain ⟨va, vc, rfl, hvc, _⟩ := h1
  clear h2 hr1
  go_enter Try.func5, Try.ntmps5
  go_wp2
  go_loopg [7, 8, 9, 10] rs.length (fun g s7 s8 s9 _ wr => ∃ i : Nat, i ≤ rs.length ∧ rs.length - i ≤ g ∧ s9 = .int .i64 (i : Int) ∧ Hid (TwT wr w.heap.size s7 s8 (rs.take i)) ∧ Hid (Up w wr))
  case atStart => exact ⟨0, by omega, by omega, rfl, twT_nil _ _, Up.refl _⟩
  case round =>
    obtain ⟨i, hi, hgi, rfl, HT, HU⟩ := hrel
    obtain ⟨wb, hwb⟩ : ∃ wb, wb = wr := ⟨_, rfl⟩
    subst hwb
    by_cases hlt : i < rs.length
    · have hltz : (i : Int) < (rs.length : Int) := by omega
      obtain ⟨b, off, c', a', k', ea, hb, hcell0, hsl⟩ := HS.out.get hlt
      injection ea with ea1 ea2 ea3
      subst ea1 ea3
      have hcell := HU.out.cell hcell0
      have HC0 := Hid.of hcell0
      have hrl := HR.out rs[i] (List.getElem_mem hlt)
      have HLn := fun w' => fun (u : Up w w') => Hid.of (lent_walk7 _ rs[i] w' (hsl.up u) hrl)
      have HTk := Hid.of (List.take_succ_eq_append_getElem hlt)
      clear hcell0 ea2 hsl
      generalize rs[i] = r at *
      go_wp2_with fail
      refine (HLn _ HU.out).out.mono ?_
      rintro e w1 ⟨g, rfl, ho, u1⟩
      have hln : Ln w1 w.heap.size (.slice (some ⟨g, 0, none⟩) r.length (r.length + 200)) (.slice (some ⟨g, 0, none⟩) (r.length + 200) (r.length + 200)) r := ⟨g, rfl, rfl, ho.base HU.out.size⟩
      have H1 := Hid.of (And.intro hln u1)
      have hsz := HU.out.size
      have hlen : (rs.take i).length < 1099511627776 := by rw [List.length_take]; omega
      clear ho u1 hln HLn hcell
      dsimp only
      go_wp2_with (with_reducible show wpList _ _ _ ({ dst := _, op := Op.call { callee := Callee.builtin Builtin.append, args := _, argTypes := _ }, type := _, pos := _, after := _, guard := _ } :: _) _ _; refine Shut.out ?_)
      show wpList _ _ _ _ _ _
      refine twT_rooms (w1 := wb) (w2 := w1) rfl _ _ rfl w.heap.size _ _ (rs.take i) _ (.slice (some ⟨g, 0, none⟩) (r.length + 200) (r.length + 200)) r rfl (by exact HT.out) H1.out.2 H1.out.1 1 rfl hlen hsz ?_
      intro v2 w2 q2 k2
      have H2 := Hid.of (And.intro q2 (Up.step (HU.out.trans H1.out.2) (Nat.le_refl _) k2))
      clear q2 k2
      have hcell := H2.out.2.cell HC0.out
      have hsz2 := H2.out.2.size
      simp only [Act.put, List.setIfInBounds_toArray, List.set_cons_zero, List.set_cons_succ]
      go_wp2_with (with_reducible show wpList _ _ _ ({ dst := _, op := Op.call { callee := Callee.builtin Builtin.append, args := _, argTypes := _ }, type := _, pos := _, after := _, guard := _ } :: _) _ _; refine Shut.out ?_)
      show wpList _ _ _ _ _ _
      refine twH_own (w := w2) rfl _ _ rfl w.heap.size _ _ (rs.take i) (.slice (some ⟨g, 0, none⟩) r.length (r.length + 200)) _ r rfl (by exact H2.out.1) 1 rfl hlen hsz2 ?_
      intro v3 w3 q3 k3
      have H3 := Hid.of (And.intro q3 (Up.step H2.out.2 (Nat.le_refl _) k3))
      clear q3 k3 hcell
      simp only [Act.put, List.setIfInBounds_toArray, List.set_cons_zero, List.set_cons_succ]
      go_wp2
      go_roundg (rs.length - (i + 1))
      case measure => omega
      case rel => exact ⟨i + 1, by omega, by omega, by go_num, by rw [HTk.out]; exact H3.out.1, H3.out.2⟩
    · have hltz : ¬ (i : Int) < (rs.length : Int) := by omega
      have hi2 : i = rs.length := by omega
      subst hi2
      rw [List.take_length] at HT
      have HOw := Hid.of HT.out.own
      have HRo := Hid.of HT.out.rooms
      have HSw := Hid.of (HS.out.up HU.out)
      have HDw := Hid.of (HD.out.up HU.out)
      obtain ⟨a7, c7, e7, _, _⟩ := HT.out.own
      obtain ⟨a8, c8, e8, _, _⟩ := HT.out.rooms
      rw [List.length_map] at e8
      subst e7 e8
      have HJ := fun w' => fun (u : Up wb w') => Hid.of (join_walk _ rs w' (HOw.out.up u) (by omega))
      have HRJ := fun w' => fun (u : Up wb w') => Hid.of (refJoin_walk _ rs w' (HSw.out.up u))
      clear HT hltz hi hgi
      have hjl := jb_le rs
      have HUn := fun w' => fun (u : Up wb w') => Hid.of (untouched_walk _ _ rs w' (HRo.out.up u) (HSw.out.up u) hl1 HR.out)
      go_wp2_with fail
      refine (HJ wb (Up.refl _)).out.mono ?_
      intro e w2 q2
      obtain ⟨ab, cb', rfl, ob, u2⟩ := q2.any
      have H2 := Hid.of (And.intro ob u2)
      clear ob u2 q2
      dsimp only
      go_wp2_with fail
      refine (HRJ w2 H2.out.2).out.mono ?_
      intro e w3 q3
      obtain ⟨ac, cc, rfl, oc, u3⟩ := q3.any
      have H3 := Hid.of (And.intro oc u3)
      have hv1 : (convert 23 9 (.slice ab (jb rs).length cb')).run Try.prog w3 = .ok (vs (jb rs)) w3 := conv_sl (H2.out.1.sl.up u3)
      have hv2 : (convert 23 9 (.slice ac (jb rs).length cc)).run Try.prog w3 = .ok (vs (jb rs)) w3 := conv_sl oc.sl
      have HOw2 := fun x => Hid.of (owned_walk wb.heap.size (.slice ab (jb rs).length cb') (jb rs) x w3 (H2.out.1.below u3).o (by omega))
      rw [show vs (jb rs) = .string ⟨(jb rs).toArray⟩ from rfl] at hv1 hv2
      have HCv := Hid.of (show ∀ w' v, Sl w' v (jb rs) → (convert 23 9 v).run Try.prog w' = .ok (.string ⟨(jb rs).toArray⟩) w' from fun w' v h => conv_sl h)
      generalize (⟨(jb rs).toArray⟩ : ByteArray) = bs at *
      have hee : ((je rs) == (je rs)) = true := by simp
      clear oc u3 q3 HRJ
      dsimp only
      go_wp2_with (go_at_call 8; refine (num_walk _ _).mono ?_; rintro e w9 ⟨rfl, h9⟩; obtain rfl := h9.symm)
      refine (HOw2 9).out.mono ?_
      rintro e w4 ⟨bk, v2', rfl, hbk, h2w, hgr, hv2b⟩
      have HU4 : Hid (Up wb w4) := Hid.of ((H2.out.2.trans H3.out.2).by hgr (fun g hg => (own_lt H2.out.1 hg).1))
      have HC4 : Hid (Own w4 w2.heap.size (.slice ac (jb rs).length cc) (jb rs)) := Hid.of (H3.out.1.kept hgr (fun g hg e => by
        have h1 := (own_lt H3.out.1 hg).1
        have h2 := (own_lt H2.out.1 e).2
        omega))
      have HTw := Hid.of h2w
      clear h2w hgr hv2b hbk HOw2 hv1 hv2
      dsimp only
      go_wp2_with fail
      refine (HJ w4 HU4.out).out.mono ?_
      intro e w5 q5
      obtain ⟨ad, cd, rfl, od, u5⟩ := q5.any
      have hv1 := HCv.out w5 _ od.sl
      have hv2 := HCv.out w5 _ (HC4.out.below u5).sl
      have HU5 := Hid.of (HU4.out.trans u5)
      have HM5 := Hid.of (marked_walk bk _ _ 9 _ _ 2 w5 (HTw.out.up u5) (by omega) (by omega))
      clear od u5 q5 HJ HTw
      dsimp only
      go_wp2_with fail
      refine HM5.out.mono ?_
      rintro e w6 ⟨rfl, h6⟩
      obtain rfl := h6.symm
      clear h6 HM5
      dsimp only
      go_wp2_with fail
      refine (HUn _ HU5.out).out.mono ?_
      rintro e w6 ⟨rfl, u6⟩
      have HU6 := Hid.of (HU5.out.trans u6)
      clear u6 HUn hv1 hv2 HC4 HU4 H2 H3 HU5
      have HLd := Hid.of (lent_walk7 _ d w6 (HDw.out.up HU6.out) hl2)
      dsimp only
      go_wp2_with fail
      refine HLd.out.mono ?_
      rintro e w7 ⟨g, rfl, ho, u7⟩
      have hln : Ln w7 w6.heap.size (.slice (some ⟨g, 0, none⟩) d.length (d.length + 200)) (.slice (some ⟨g, 0, none⟩) (d.length + 200) (d.length + 200)) d := ⟨g, rfl, rfl, ho⟩
      have HGv := Hid.of hln.own
      have HRm := Hid.of hln.room
      have HU7 := Hid.of (HU6.out.trans u7)
      have HDw7 := Hid.of (HDw.out.up (HU6.out.trans u7))
      have HCt := fun w' => fun (u : Up w7 w') => Hid.of (cut_walk _ _ d k w' (HGv.out.up u) (by omega))
      have HRc := fun w' => fun (u : Up w7 w') => Hid.of (refCut_walk _ _ d k w' (HDw7.out.up u) (by omega))
      have HWl := fun w' => fun (u : Up w7 w') => Hid.of (whole_walk _ _ d w' (HRm.out.up u) (HDw7.out.up u) hl2)
      clear ho u7 hln HLd HU6 HDw HGv HRm HDw7
      dsimp only
      go_wp2_with fail
      refine (HCt w7 (Up.refl _)).out.mono ?_
      intro e w8 q8
      obtain ⟨al, cl1, rfl, ol, u8'⟩ := q8.any
      obtain ⟨xs, hxs, hxw⟩ := ol.xs
      have HX := Hid.of hxs
      have HW := Hid.of hxw
      have H8 := Hid.of (And.intro ol u8')
      have HN78 := Hid.of u8'.size
      clear ol u8' q8 hxs hxw
      dsimp only
      go_wp2_with fail
      refine (HRc w8 H8.out.2).out.mono ?_
      intro e w9 q9
      obtain ⟨ar, cr, rfl, orr, u9⟩ := q9.any
      have H9 := Hid.of (And.intro orr u9)
      have hcs := cl_small d k
      have HLs := Hid.of (lists_walk _ _ (cl d k) w9 (H8.out.1.sl.up u9) orr.sl (by omega))
      have hee2 : ((ce d k) == (ce d k)) = true := by simp
      clear orr u9 q9 HRc
      dsimp only
      go_wp2_with fail
      refine HLs.out.mono ?_
      rintro e wA ⟨rfl, uA⟩
      have HUA : Hid (Up w8 wA) := Hid.of (H9.out.2.trans uA)
      have HRA : Hid (LT wA w8.heap.size (.slice ar (cl d k).length cr) (cl d k)) := Hid.of (H9.out.1.up uA)
      clear uA HLs H9
      dsimp only
      go_wp2_with (go_at_call 8; refine (num_walk _ _).mono ?_; rintro e w9 ⟨rfl, h9⟩; obtain rfl := h9.symm)
      refine (HWl wA (H8.out.2.trans HUA.out)).out.mono ?_
      rintro e wB ⟨rfl, uB⟩
      have HWB := Hid.of (HW.out.up (HUA.out.trans uB))
      have HRB := Hid.of (HRA.out.up uB)
      have HU7B := Hid.of ((H8.out.2.trans HUA.out).trans uB)
      have HNB := Hid.of (Nat.le_trans HUA.out.size uB.size)
      clear uB HUA HRA H8 HW
      generalize hls0 : cl d k = ls0 at *
      generalize hce0 : ce d k = ce0 at *
      have HLs0 : Hid (cl d k = ls0 ∧ True) := ⟨hls0, trivial⟩
      have HCe0 : Hid (ce d k = ce0 ∧ True) := ⟨hce0, trivial⟩
      clear hls0 hce0
      obtain ⟨hcs1, hcs2⟩ := hcs
      have HS2 := Hid.of hcs2
      clear hcs2
      have hnl : (ls0.map List.length).length = ls0.length := by rw [List.length_map]
      dsimp only
      go_wp2_with fail
      go_loopg [22, 23] ls0.length (fun g s22 _ wr => ∃ i : Nat, i ≤ ls0.length ∧ ls0.length - i ≤ g ∧ s22 = .int .i64 (i : Int) ∧ Hid (XW wr w7.heap.size (.slice al ls0.length cl1) xs (ls0.map List.length) 0) ∧ Hid (Up w7 wr) ∧ Hid (LT wr w8.heap.size (.slice ar ls0.length cr) ls0) ∧ Hid (w8.heap.size ≤ wr.heap.size))
      case atStart => exact ⟨0, by omega, by omega, rfl, HWB.out, HU7B.out, HRB.out, HNB.out⟩
      case round =>
        clear HWB HU7B HRB HNB
        obtain ⟨i, hi, hgi, rfl, HL, HUb, HRb, HNb⟩ := hrel
        obtain ⟨wc, hwc⟩ : ∃ wc, wc = wr := ⟨_, rfl⟩
        subst hwc
        by_cases hlt : i < ls0.length
        · have hltz : (i : Int) < (ls0.length : Int) := by omega
          have hi256 : (i : Int) < 256 := by omega
          have hni : (ls0.map List.length)[i]? = some ls0[i].length := by rw [List.getElem?_map, List.getElem?_eq_getElem hlt]; rfl
          have hnn := HS2.out ls0[i] (List.getElem_mem hlt)
          generalize ls0[i].length = n at *
          go_wp2_with fail
          go_loopg [23] n (fun g s23 wr => ∃ j : Nat, j ≤ n ∧ n - j ≤ g ∧ s23 = .int .i64 (j : Int) ∧ Hid (XW wr w7.heap.size (.slice al ls0.length cl1) xs (ls0.map List.length) 0) ∧ Hid (Up w7 wr) ∧ Hid (LT wr w8.heap.size (.slice ar ls0.length cr) ls0) ∧ Hid (w8.heap.size ≤ wr.heap.size))
          case atStart => exact ⟨0, by omega, by omega, rfl, HL.out, HUb.out, HRb.out, HNb.out⟩
          case round =>
            clear HL HUb HRb HNb
            obtain ⟨j, hj, hgj, rfl, HL, HUb, HRb, HNb⟩ := hrel
            obtain ⟨wd, hwd⟩ : ∃ wd, wd = wr := ⟨_, rfl⟩
            subst hwd
            by_cases hjt : j < n
            · have hjz : (j : Int) < (n : Int) := by omega
              obtain ⟨gl, cl', g, c, b, ev, hc1, hB1, hB2, hc2, hf, hx⟩ := HL.out.store HX.out hni hjt (bt i)
              rw [bt_nat (by omega)] at hx
              injection ev with ev1 ev2 ev3
              subst ev1 ev3
              have HL2 := Hid.of hx
              have hgb := grown_set1 wd ⟨g, j, none⟩ (.int .u8 (i : Int))
              have HU2 := Hid.of (HUb.out.by hgb (fun g' hg' => by cases hg'; exact hB1))
              have HR2 := Hid.of (HRb.out.by hgb (fun g' hg' => by cases hg'; exact hB2))
              have HN2 := Hid.of (Nat.le_trans HNb.out hgb.size)
              clear hx ev2 hgb
              go_wp2
              go_roundg (n - (j + 1))
              case measure => omega
              case rel => exact ⟨j + 1, by omega, by omega, by go_num, HL2.out, HU2.out, HR2.out, HN2.out⟩
            · have hjz : ¬ (j : Int) < (n : Int) := by omega
              obtain ⟨gl, cl', a2, c2, l2, ev, hc1, _, _, _⟩ := (HL.out.mono (Nat.zero_le i)).get hni
              injection ev with ev1 ev2 ev3
              subst ev1 ev3
              clear ev2
              go_wp2
              go_roundg (ls0.length - (i + 1))
              case measure => omega
              case rel => exact ⟨i + 1, by omega, by omega, by go_num, HL.out, HUb.out, HRb.out, HNb.out⟩
        · have hltz : ¬ (i : Int) < (ls0.length : Int) := by omega
          clear hlt hi hgi
          have h78 := Hid.of (show w7.heap.size ≤ w8.heap.size from HN78.out)
          go_wp2_with fail
          clear hltz
          go_loopg [21, 24] ls0.length (fun g s21 s24 wr => ∃ (i : Nat) (bs : List (Nat × Value)) (m : Value), i ≤ ls0.length ∧ ls0.length - i ≤ g ∧ s24 = .int .i64 (i : Int) ∧ m = s21 ∧ Hid (MJ w7 wc w7.heap.size w8.heap.size wc.heap.size (.slice al ls0.length cl1) (.slice ar ls0.length cr) m xs ls0 bs i wr))
          case atStart => exact ⟨0, [], _, by omega, by omega, rfl, rfl, ⟨rfl, HL.out, mK_nil _ _ _ _, HUb.out, Md.refl _ _ _⟩⟩
          case round =>
            clear HL HUb
            obtain ⟨i, bs, m, hi, hgi, rfl, rfl, HJ2⟩ := hrel
            obtain ⟨wd, hwd⟩ : ∃ wd, wd = wr := ⟨_, rfl⟩
            subst hwd
            by_cases hlt : i < ls0.length
            · have hltz : (i : Int) < (ls0.length : Int) := by omega
              have hi256 : (i : Int) < 256 := by omega
              have hni : (ls0.map List.length)[i]? = some ls0[i].length := by rw [List.getElem?_map, List.getElem?_eq_getElem hlt]; rfl
              have hnn := HS2.out ls0[i] (List.getElem_mem hlt)
              have hbl : bs.length = i := HJ2.out.len
              generalize ls0[i].length = n at *
              obtain ⟨gl, cl', a2, c2, l2, ev, hc1, hxi, hl2, hown⟩ := HJ2.out.row.get hni
              injection ev with ev1 ev2 ev3
              subst ev1 ev3
              clear ev2
              have HOw := Hid.of (owned_walk w7.heap.size (.slice a2 n c2) l2 (bt i) wd hown.o (by omega))
              rw [bt_nat (by omega), hl2] at HOw
              have HXi := Hid.of hxi
              have HNi := Hid.of hni
              have HBl := Hid.of (And.intro hbl trivial)
              clear hxi hown hl2 hni hbl
              go_wp2_with fail
              refine HOw.out.mono ?_
              rintro e w1 ⟨b, v2, rfl, hb, htw, hgr, hv2⟩
              have hNS : w8.heap.size ≤ wc.heap.size := HNb.out
              have hwS : wc.heap.size ≤ wd.heap.size := HJ2.out.md.1
              have hel := fun g => HX.out.el i _ g HXi.out
              have HK1 : Hid (XW w1 w7.heap.size (.slice (some ⟨gl, 0, none⟩) ls0.length cl1) xs (ls0.map List.length) (i + 1)) := HJ2.out.row.by HX.out HXi.out hgr
              have HM1 : Hid (MK w1 wc.heap.size m xs (ls0.map List.length) bs) := HJ2.out.mks.by hNS hgr (fun g hg => (hel g hg).2.1) (fun t x g ht hx hg e => HX.out.ap t i x _ hx HXi.out (by have := HBl.out.1; omega) g hg e)
              have HU1 : Hid (Up w7 w1) := HJ2.out.up.by hgr (fun g hg => (hel g hg).1)
              have HD1 : Hid (Md w8.heap.size wc.heap.size wc w1) := HJ2.out.md.by (Nat.le_refl _) hgr (fun g hg => .inl (hel g hg).2.1)
              have HT1 := Hid.of htw
              have HV2 := Hid.of hv2
              have hsz := hgr.size
              have HML := Hid.of (fun g (hg : m.ownBlock = some g) => HJ2.out.mks.1.lt hg)
              clear htw hv2 hgr hc1 HJ2 HOw
              dsimp only
              go_wp2_with (with_reducible show wpList _ _ _ ({ dst := _, op := Op.call { callee := Callee.builtin Builtin.append, args := _, argTypes := _ }, type := _, pos := _, after := _, guard := _ } :: _) _ _; refine Shut.out ?_)
              show wpList _ _ _ _ _ _
              refine wpList_appMK rfl _ _ rfl wc.heap.size m xs (ls0.map List.length) bs b v2 (.slice a2 n c2) n rfl HM1.out (by rw [HBl.out.1]; exact HXi.out) (by rw [HBl.out.1]; exact HNi.out) (by rw [HBl.out.1]; exact HT1.out) (by omega) (fun g hg => ?_) (fun g hg => ?_) (fun g hg => ?_) (fun t x g hx hg => ?_) 1 rfl (by have := HBl.out.1; omega) (by omega) ?_
              · rcases HV2.out g hg with e | e
                · exact .inl e
                · exact .inr (by omega)
              · have h1 := HML.out g hg
                refine ⟨by omega, fun e => ?_⟩
                rcases HV2.out g e with e2 | e2
                · have := (hel g e2).2.1
                  omega
                · omega
              · have := (hel g hg).2.1
                omega
              · have := (HX.out.el t x g hx hg).2.1
                omega
              intro m' w' gm gg gs
              have hal : Up w1 (w1.alloc (.cells #[.slice (some ⟨b, 0, none⟩) 2 2] 22)) := (Up.refl w1).alloc _
              have HE : Hid (MJ w7 wc w7.heap.size w8.heap.size wc.heap.size (.slice (some ⟨gl, 0, none⟩) ls0.length cl1) (.slice ar ls0.length cr) m' xs ls0 (bs ++ [(b, v2)]) (i + 1) w') := ⟨by rw [List.length_append, HBl.out.1]; rfl, (HK1.out.up hal).other HX.out gg (fun g hg => by have := gs g hg; omega), gm, (HU1.out.trans hal).by gg (fun g hg => by have := gs g hg; have := h78.out; omega), (HD1.out.up (Nat.le_refl _) hal).by (Nat.le_refl _) gg (fun g hg => .inr (gs g hg))⟩
              clear gm gg gs hal HK1 HM1 HU1 HD1 HT1 HV2 HML hel
              simp only [Act.put, List.setIfInBounds_toArray, List.set_cons_zero, List.set_cons_succ]
              go_wp2
              go_roundg (ls0.length - (i + 1))
              case measure => omega
              case rel => exact ⟨i + 1, _, _, by omega, by omega, by go_num, rfl, HE.out⟩
            · have hltz : ¬ (i : Int) < (ls0.length : Int) := by omega
              have hi2 : i = ls0.length := by omega
              subst hi2
              have hml : (bs.map fun p => Value.slice (some ⟨p.1, 0, none⟩) 2 2).length = ls0.length := by rw [List.length_map]; exact HJ2.out.len
              obtain ⟨am, cm, em⟩ := HJ2.out.mks.1.len
              rw [hml] at em
              subst em
              have HJ3 : Hid (NJ w7 wc w7.heap.size w8.heap.size wc.heap.size (.slice al ls0.length cl1) (.slice ar ls0.length cr) (.slice am ls0.length cm) xs ls0 bs 0 wd) := ⟨⟨xs, HJ2.out.row.1, by rw [HJ2.out.row.2.1, hnl], fun t ht => absurd ht (Nat.not_lt_zero t)⟩, HJ2.out.mks, HJ2.out.up, HJ2.out.md⟩
              have HBl := Hid.of (And.intro HJ2.out.len trivial)
              clear HJ2 hml hlt hi hgi
              go_wp2_with fail
              clear hltz
              go_loopg [25] ls0.length (fun g s25 wr => ∃ i : Nat, i ≤ ls0.length ∧ ls0.length - i ≤ g ∧ s25 = .int .i64 (i : Int) ∧ Hid (NJ w7 wc w7.heap.size w8.heap.size wc.heap.size (.slice al ls0.length cl1) (.slice ar ls0.length cr) (.slice am ls0.length cm) xs ls0 bs i wr))
              case atStart => exact ⟨0, by omega, by omega, rfl, HJ3.out⟩
              case round =>
                clear HJ3
                obtain ⟨i, hi, hgi, rfl, HJ3⟩ := hrel
                obtain ⟨we, hwe⟩ : ∃ we, we = wr := ⟨_, rfl⟩
                subst hwe
                by_cases hlt : i < ls0.length
                · have hltz : (i : Int) < (ls0.length : Int) := by omega
                  obtain ⟨ys, hy1, hy2, hy3⟩ := HJ3.out.row
                  obtain ⟨gl, c', u, ev, hc1, hf1, hB1, hO⟩ := hy1.nil (i := i) (by omega)
                  rw [hy2] at ev
                  injection ev with ev1 ev2 ev3
                  subst ev1 ev3
                  clear ev2
                  have hgb := grown_set1 we ⟨gl, i, none⟩ (.slice none 0 0)
                  have hrw := HX.out.rw gl rfl
                  have HE : Hid (NJ w7 wc w7.heap.size w8.heap.size wc.heap.size (.slice (some ⟨gl, 0, none⟩) ls0.length cl1) (.slice ar ls0.length cr) (.slice am ls0.length cm) xs ls0 bs (i + 1) (we.setCell ⟨gl, i, none⟩ (.slice none 0 0))) := ⟨⟨ys.set i (.slice none 0 0), hO, by rw [List.length_set]; exact hy2, fun t ht => by
                    by_cases hti : t = i
                    · subst hti; exact List.getElem?_set_self (by omega)
                    · rw [List.getElem?_set_ne (fun e => hti e.symm)]; exact hy3 t (by omega)⟩, HJ3.out.mks.by HNb.out hgb (fun g hg => by cases hg; exact hrw.2) (fun t x g ht hx hg e => (HX.out.el t x g hx hg).2.2 e), HJ3.out.up.by hgb (fun g hg => by cases hg; exact hrw.1), HJ3.out.md.by (Nat.le_refl _) hgb (fun g hg => by cases hg; exact .inl hrw.2)⟩
                  clear hy1 hy2 hy3 hO hgb hrw
                  go_wp2
                  go_roundg (ls0.length - (i + 1))
                  case measure => omega
                  case rel => exact ⟨i + 1, by omega, by omega, by go_num, HE.out⟩
                · have hltz : ¬ (i : Int) < (ls0.length : Int) := by omega
                  have hi2 : i = ls0.length := by omega
                  subst hi2
                  clear hlt hi hgi
                  go_wp2_with fail
                  clear hltz
                  refine (HCt we HJ3.out.up).out.mono ?_
                  intro e wf qf
                  obtain ⟨al2, cl2, ef, ol2, uf⟩ := qf.any
                  rw [HLs0.out.1, HCe0.out.1] at ef
                  rw [HLs0.out.1] at ol2
                  subst ef
                  have HUf := Hid.of uf
                  have HRf : Hid (LT wf w8.heap.size (.slice ar ls0.length cr) ls0) := (HRb.out.md HJ3.out.md rfl).up uf
                  have HLs := Hid.of (lists_walk _ _ ls0 wf ol2.sl HRf.out.sl (by omega))
                  clear ol2 uf qf HCt
                  dsimp only
                  go_wp2_with fail
                  refine HLs.out.mono ?_
                  rintro e wg ⟨rfl, ug⟩
                  have HUg := Hid.of (HUf.out.trans ug)
                  clear ug HLs HRf HUf
                  dsimp only
                  go_wp2_with fail
                  refine (HWl wg (HJ3.out.up.trans HUg.out)).out.mono ?_
                  rintro e wh ⟨rfl, uh⟩
                  have HUh := Hid.of (HUg.out.trans uh)
                  have HMh := Hid.of (HJ3.out.mks.up (HUg.out.trans uh))
                  obtain ⟨ys, hy1, hy2, hy3⟩ := HJ3.out.row
                  have HYh := Hid.of (And.intro (hy1.up (HUg.out.trans uh)) (And.intro hy2 hy3))
                  have HEnd := Hid.of (HU.out.trans (HU7.out.trans (HJ3.out.up.trans (HUg.out.trans uh))))
                  clear uh HUg HWl hy1 hy2 hy3 HJ3 HUh
                  dsimp only
                  go_wp2_with fail
                  go_loopg [26] ls0.length (fun g s26 wr => ∃ i : Nat, i ≤ ls0.length ∧ ls0.length - i ≤ g ∧ s26 = .int .i64 (i : Int) ∧ wr = wh)
                  case atStart => exact ⟨0, by omega, by omega, rfl, rfl⟩
                  case round =>
                    obtain ⟨i, hi, hgi, rfl, hwr⟩ := hrel
                    obtain rfl : wh = wr := hwr.symm
                    clear hwr
                    by_cases hlt : i < ls0.length
                    · have hltz : (i : Int) < (ls0.length : Int) := by omega
                      have hi256 : (i : Int) < 256 := by omega
                      have hbi : i < bs.length := by have := HBl.out.1; omega
                      obtain ⟨x, n, e1, e2, tw, hrest⟩ := HMh.out.2 i _ (List.getElem?_eq_getElem hbi)
                      have hn2 : n ≤ 1024 := by
                        rw [List.getElem?_map, List.getElem?_eq_getElem hlt] at e2
                        cases e2
                        exact HS2.out _ (List.getElem_mem hlt)
                      obtain ⟨gm, cm', em, hcm⟩ := HMh.out.1.get (i := i) (u := .slice (some ⟨bs[i].1, 0, none⟩) 2 2) (by rw [List.getElem?_map, List.getElem?_eq_getElem hbi]; rfl)
                      obtain ⟨av, cv, ev, hcv⟩ := HYh.out.1.cell
                      obtain ⟨gv, egv, hcy⟩ := hcv i _ (HYh.out.2.2 i hlt)
                      have HMk := Hid.of (marked_walk bs[i].1 x bs[i].2 (bt i) n (n + 1) 2 wh tw (by omega) (by omega))
                      rw [bt_nat (by omega)] at HMk
                      injection em with em1 em2 em3
                      injection ev with ev1 ev2 ev3
                      subst em1 em3 ev1 ev3 egv
                      clear em2 ev2 tw e1 e2 hcv hrest
                      generalize bs[i].1 = bb at *
                      clear hbi
                      go_wp2_with fail
                      refine HMk.out.mono ?_
                      rintro e wi ⟨rfl, h6⟩
                      obtain rfl := h6.symm
                      clear h6 HMk
                      dsimp only
                      go_wp2
                      go_roundg (ls0.length - (i + 1))
                      case measure => omega
                      case rel => exact ⟨i + 1, by omega, by omega, by go_num, rfl⟩
                    · have hltz : ¬ (i : Int) < (ls0.length : Int) := by omega
                      go_wp2
                      go_ret
                      exact ⟨rfl, HEnd.out⟩
end Go.Proofs.Ytngoedhddjakhaa
