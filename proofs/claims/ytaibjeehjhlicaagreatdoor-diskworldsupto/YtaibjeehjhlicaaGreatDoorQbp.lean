import Derived.Test.YtaibjeehjhlicaaGreatDoorQat
import Derived.Test.YtaibjeehjhlicaaGreatDoorQau
namespace Go.Proofs.YtaibjeehjhlicaaGreatDoor
open Go.RowKit Go.Shelf TextNum ModNum
/-- a disk whose machine died -/
abbrev ddS (s : DD) : DD := { s with acts := s.acts, unt := s.unt, flt := s.flt, dead := true }
theorem DOk.died {w w' : World} {B D T : Nat} {s : DD} (h : DOk w B D T s) (f : Fr (fun k => k = D) w w') (a : At w' D 85 ((dcl s).set 2 (.bool true))) (hT : T + 1 ≤ 100000) : DOk w' B D (T + 1) (ddS s) := by
  have g : w.grownBy w' (some D) := ⟨f.os, f.tape, f.output, f.size, fun k hk hr => f.block k hk (fun e => hr (by rw [e]))⟩
  exact (h.acted g s.acts s.unt s.flt true a (by have := h.num; omega) hT).1
/-- ints in cells -/
def ci (l : List Int) : List Value := l.map fun c => Value.int .i64 c
theorem ci_length (l : List Int) : (ci l).length = l.length := by simp [ci]
theorem ci_one (l : List Int) : ∀ u ∈ ci l, u.oneCell' = true := fun u hu => by
  obtain ⟨c, _, rfl⟩ := List.mem_map.1 hu
  rfl
/-- a list of ints that is given -/
def SI (w : World) (v : Value) (cs : List Int) : Prop :=
  ∃ a c, v = .slice a cs.length c ∧ cs.length ≤ c ∧ c ≤ maxLen ∧ (a = none → cs = [] ∧ c = 0) ∧ ∀ ad, a = some ad → (cs ≠ [] → ad.spot = none) ∧ ∀ j u, (ci cs)[j]? = some u → w.cell? (ad.add j) = some u
theorem SI.up {w w' : World} {v : Value} {cs : List Int} (h : SI w v cs) (k : Up w w') : SI w' v cs := by
  obtain ⟨a, c, rfl, h1, h2, h3, h4⟩ := h
  exact ⟨a, c, rfl, h1, h2, h3, fun ad e => ⟨(h4 ad e).1, fun j u hj => k.cell ((h4 ad e).2 j u hj)⟩⟩
theorem sint_own {w : World} {N : Nat} {v : Value} {cs : List Int} (h : w.ownsRow N 3 1 v cs.length (ci cs)) : Sint w v cs := by
  obtain ⟨a, c, rfl⟩ := row_len h
  refine ⟨a, c, rfl, ?_, fun i hi => ?_⟩
  · rcases h.2 with ⟨_, h0⟩ | ⟨g, cap, cur, e, _, _, hc, _⟩
    · omega
    · injection e with _ _ e3
      omega
  · obtain ⟨g, rfl, _, hx, hc⟩ := own_get h hi
    refine ⟨g, 0, rfl, ?_⟩
    rw [Nat.zero_add, hc]
    simp [ci]
theorem Tryz.infoInt : (Tryz.prog.info? 3).map (fun i => (i.zero, i.size, i.bytes)) = some (some (.int .i64 0), 1, 8) := by kernel_rfl
/-- what is known of the files that a crash leaves -/
structure LF (s : DD) (cs : List Int) (gs : LG) (ws : List WL) : Prop where
  nd : (gs.map Prod.fst).Nodup
  nm : ∀ l, l ∈ gs.map Prod.fst ↔ (nrun (s.chs.take (cz cs 0 s.chs.length)) s.las l).isSome = true
  fl : ∀ p ∈ gs, p.2 ∈ fls s ∧ nrun (s.chs.take (cz cs 0 s.chs.length)) s.las p.1 = some p.2.b
  pm : List.Perm ws (wls gs)
  so : List.Pairwise (fun x y : WL => x.l.tn ≤ y.l.tn) ws
theorem LF.len {s : DD} {cs : List Int} {gs : LG} {ws : List WL} {X : Nat} (h : LF s cs gs ws) (hF : CF s X) : gs.length ≤ (fls s).length := by
  have h1 := len_sub (ys := (fls s).map (·.b)) (nodup_b h.fl h.nd (hF.inj _)) (fun x hx => by
    obtain ⟨p, hp, rfl⟩ := List.mem_map.1 hx
    exact List.mem_map.2 ⟨p.2, (h.fl p hp).1, rfl⟩)
  rwa [List.length_map, List.length_map] at h1
theorem LF.sum {s : DD} {cs : List Int} {gs : LG} {ws : List WL} {X : Nat} (h : LF s cs gs ws) (hF : CF s X) {L : List (List UInt8 × List UInt8)} (hL : L.Perm (lfs cs 1 gs ws)) : (L.map fun p => p.2.length).sum ≤ 1099511627776 := by
  have hw : ∀ x ∈ ws, x.l.p + x.l.ds.length ≤ X := fun x hx => by
    obtain ⟨hi, hl⟩ := wls_mem (h.pm.mem_iff.1 hx)
    exact (hF.sz _ (h.fl _ (List.getElem_mem hi)).1).2 _ hl
  have h1 := sum_leX (X := X) (L.map fun p => p.2.length) (fun x hx => by
    obtain ⟨p, hp, rfl⟩ := List.mem_map.1 hx
    exact lfs_mem (cs := cs) (k0 := 1) (fun p hp => (hF.sz _ (h.fl p hp).1).1) hw p (hL.mem_iff.1 hp))
  rw [List.length_map, hL.length_eq, lfs_len] at h1
  have h2 := Nat.mul_le_mul_right X (h.len hF)
  have := hF.all
  omega
theorem LF.nms {s : DD} {cs : List Int} {gs : LG} {ws : List WL} {X : Nat} (h : LF s cs gs ws) (hF : CF s X) : ∀ p ∈ lfs cs 1 gs ws, isNm p.1 = true := fun p hp => by
  have h1 : p.1 ∈ gs.map Prod.fst := by rw [← lfs_fst cs 1 gs ws]; exact List.mem_map_of_mem hp
  obtain ⟨b, hb⟩ := Option.isSome_iff_exists.1 ((h.nm _).1 h1)
  exact (hF.mem _ _ b hb).2
theorem LF.ndl {s : DD} {cs : List Int} {gs : LG} {ws : List WL} (h : LF s cs gs ws) : ((lfs cs 1 gs ws).map Prod.fst).Nodup := by rw [lfs_fst]; exact h.nd
abbrev pr (g : GF) : List UInt8 × List UInt8 := (g.nm.data.toList, g.ds)
theorem ldE_ok {fs : List GF} {L : List (List UInt8 × List UInt8)} (h : fs.map pr = L) (h1 : ∀ p ∈ L, isNm p.1 = true) (h2 : (L.map Prod.fst).Nodup) (h3 : (L.map fun p => p.2.length).sum ≤ 1099511627776) : ldE 1099511627776 fs = 0 := by
  subst h
  unfold ldE
  rw [if_neg (by omega), if_neg, if_neg, if_neg]
  · rw [List.map_map] at h3
    have : (fs.map fun g => g.ds.length).sum ≤ 1099511627776 := h3
    omega
  · rw [List.map_map] at h2
    exact fun k => k h2
  · exact fun k => k (fun g hg => h1 (pr g) (List.mem_map_of_mem hg))
theorem mem_le_sum : ∀ {l : List Nat} {x : Nat}, x ∈ l → x ≤ l.sum
  | a :: r, x, h => by
    rw [List.sum_cons]
    rcases List.mem_cons.1 h with rfl | h
    · omega
    · have := mem_le_sum h
      omega
set_option maxRecDepth 100000 in
set_option maxHeartbeats 4000000 in
theorem after_gen (B D T X : Nat) (s : DD) (v : Value) (cs : List Int) (w : World) (hD : DOk w B D T s) (hS : SI w v cs) (hF : CF s X) (hn0 : s.n0 + T + T ≤ 1000000) (hcl : cs.length ≤ 17592186044416) (hT : T + 1 ≤ 100000) :
    Calls Tryz.prog 18 #[pv D, v] w fun e w' => ∃ a fs c gs ws, e = .returned (.tuple #[.slice a (List.length fs) c, .bool true]) ∧ FsO w' w.heap.size a fs c ∧ Fr (fun k => k = D) w w' ∧ DOk w' B D (T + 1) (ddS s) ∧ LF s cs gs ws ∧ fs.map pr = srF (lfs cs 1 gs ws) := by
  have HD := Hid.of hD
  have HF := Hid.of hF
  have HML := Hid.of hD.ml
  have HLow := Hid.of (show 0 < w.heap.size by have := hD.low; have := hD.hB; omega)
  have HPost : ∀ (v1 : Value) (w1 : World), w1.ownsRow w.heap.size 3 1 v1 cs.length (ci cs) → Up w w1 →
      Calls Tryz.prog 32 #[pv D, v1] w1 fun e w' => ∃ D' s' fs gs ws w3, e = .returned (pv D') ∧ Fr (fun k => k = D) w w3 ∧ At w3 D 85 ((dcl s).set 2 (.bool true)) ∧ Laid w3 w' D' s.room fs s' ∧ LF s cs gs ws ∧ fs.map pr = lfs cs 1 gs ws := fun v1 w1 o1 u1 => by
    refine (Crash_gen B D T X s v1 cs w1 (HD.out.up u1) (sint_own o1) (fun g hg => ?_) hF hn0 (by omega)).mono ?_
    · have h1 := World.ownsRow.lt o1 g hg
      have h2 := lt_of_at HD.out.disk
      exact ⟨h1.2, by omega⟩
    · rintro e w' ⟨D', s', fs, gs, ws, w3, rfl, q1, q2, q3, q4, q5, q6, q7, q8, q9⟩
      exact ⟨D', s', fs, gs, ws, w3, rfl, ((Fr.refl _ w).up u1).trans q1 (fun g hg => .inl hg), q2, q3, ⟨q4, q5, q6, q7, q8⟩, q9⟩
  have HPo := Hid.of HPost
  clear HPost hD hF
  obtain ⟨i0, hi, hz0, hz1, hz2⟩ := info_parts Tryz.infoInt
  obtain ⟨a, c, rfl, h1, h2, h3, h4⟩ := hS
  cases a with
  | none =>
    obtain ⟨rfl, rfl⟩ := h3 rfl
    clear h4 h3 h2 h1
    have HC := Hid.of (HPo.out (.slice none 0 0) w (World.ownsRow_nil _ _ _ _) (Up.refl _))
    clear HPo
    go_enter Tryz.func18, Tryz.ntmps18
    go_wp2_with fail
    refine HC.out.mono ?_
    rintro e w2 ⟨D', s', fs, gs, ws, w3, rfl, q1, q2, q3, q4, q5⟩
    dsimp only
    have HFr := Hid.of (q1.up q3.up)
    have HDd := Hid.of (HD.out.died (q1.up q3.up) (q2.up q3.up) hT)
    have HLd := Hid.of q3
    have HLF := Hid.of q4
    have HE := Hid.of q5
    have HN := Hid.of (show s'.nf.map (fun p => (p.1, p.2.nb)) = lfs ([] : List Int) 1 gs ws from q3.ld.trans q5)
    have HLn := Hid.of (show s'.nf.length ≤ 1000000 by
      have h1 := congrArg List.length (q3.ld.trans q5)
      have h2 := q4.len HF.out
      have h3 := HF.out.len
      rw [List.length_map] at h1
      rw [lfs_len] at h1
      omega)
    clear q1 q2 q3 q4 q5 HC
    go_wp2_with fail
    refine (Files_gen w2 HLd.out.ok HLd.out.st.1 (by have := HLn.out; omega)).mono ?_
    rintro e w4 ⟨a4, fs4, c4, rfl, o4, u4, e4⟩
    dsimp only
    have HE4 := Hid.of (show fs4.map pr = srF (lfs ([] : List Int) 1 gs ws) by rw [← HN.out, ← fsOf_srF]; exact e4)
    have HO4 := Hid.of o4
    have HU4 := Hid.of u4
    have HL4 := Hid.of (show List.length fs4 ≤ 1000000 by
      have h1 := congrArg List.length HE4.out
      rw [List.length_map, (srF_perm HLF.out.ndl).length_eq, ← HN.out, List.length_map] at h1
      have := HLn.out
      omega)
    have HS4 := Hid.of (show ((srF (lfs ([] : List Int) 1 gs ws)).map fun p => p.2.length).sum ≤ 1099511627776 from HLF.out.sum HF.out (srF_perm HLF.out.ndl))
    have HG4 := Hid.of (show ∀ g ∈ fs4, g.ds.length ≤ 1099511627776 from fun g hg => by
      have h1 : pr g ∈ srF (lfs ([] : List Int) 1 gs ws) := by rw [← HE4.out]; exact List.mem_map_of_mem hg
      have h2 := mem_le_sum (List.mem_map_of_mem (f := fun p : List UInt8 × List UInt8 => p.2.length) h1)
      have h3 := HS4.out
      exact Nat.le_trans h2 h3)
    clear o4 u4 e4
    go_wp2_with fail
    refine (copies_walk a4 c4 fs4 w4 HO4.out.fsl HL4.out HG4.out).mono ?_
    rintro e w5 ⟨a5, fs5, c5, rfl, o5, u5, e5⟩
    dsimp only
    have HE5 := Hid.of (show fs5.map pr = srF (lfs ([] : List Int) 1 gs ws) from e5.trans HE4.out)
    have HO5 := Hid.of o5
    have HU5 := Hid.of (HU4.out.trans u5)
    have HL5 := Hid.of (show List.length fs5 ≤ 1000000 by
      have h1 := congrArg List.length e5
      rw [List.length_map, List.length_map] at h1
      have := HL4.out
      omega)
    have HZ := Hid.of (show ldE 1099511627776 fs5 = 0 from ldE_ok HE5.out (fun p hp => HLF.out.nms HF.out p ((srF_mem HLF.out.ndl).1 hp)) (srF_nd HLF.out.ndl) HS4.out)
    clear o5 u5 e5
    go_wp2_with fail
    refine (Load_gen 1099511627776 a5 fs5 c5 w5 HO5.out.fsl HL5.out (HDd.out.up HU5.out).ml (by have := HLow.out; have := HFr.out.size; have := HU5.out.size; omega)).mono ?_
    rintro e w6 ⟨u6, h6⟩
    rcases h6 with ⟨h0, _⟩ | ⟨_, D6, s6, w7, u7, rfl, l6⟩
    · exact absurd HZ.out h0
    dsimp only
    have HU6 := Hid.of (HU5.out.trans u6)
    have HLd6 := Hid.of l6
    have HN6 := Hid.of (show fsOf s6.nf = srF (lfs ([] : List Int) 1 gs ws) by
      rw [fsOf_srF, show s6.nf.map (fun p => (p.1, p.2.nb)) = fs5.map pr from l6.ld, HE5.out, srF_srF HLF.out.ndl])
    have HLn6 := Hid.of (show s6.nf.length ≤ 1099511627776 by have := l6.ld.len; have := HL5.out; omega)
    clear u6 u7 l6
    go_wp2_with fail
    refine (Files_gen w6 HLd6.out.ok HLd6.out.st.1 HLn6.out).mono ?_
    rintro e w8 ⟨a8, fs8, c8, rfl, o8, u8, e8⟩
    dsimp only
    have HU8 := Hid.of (HU6.out.trans u8)
    have HFin := Hid.of (show FsO w8 w.heap.size a8 fs8 c8 ∧ fs8.map pr = srF (lfs ([] : List Int) 1 gs ws) from ⟨o8.low (by have := HFr.out.size; have := HU6.out.size; omega), e8.trans HN6.out⟩)
    clear o8 u8 e8
    go_wp2
    go_ret2
    exact ⟨a8, fs8, c8, gs, ws, rfl, HFin.out.1, HFr.out.up HU8.out, HDd.out.up HU8.out, HLF.out, HFin.out.2⟩
  | some ad =>
    have HS := Hid.of (h4 ad rfl).2
    clear h4 h3
    go_enter Tryz.func18, Tryz.ntmps18
    go_wp2_with (with_reducible show wpList _ _ _ ({ dst := _, op := Op.call { callee := Callee.builtin Builtin.append, args := _, argTypes := _ }, type := _, pos := _, after := _, guard := _ } :: _) _ _; refine Shut.out ?_)
    show wpList _ _ _ _ _ _
    refine wpList_append_frs rfl _ _ 23 rfl w.heap.size 3 i0 (.int .i64 0) 8 Tryz.underlying23 hi hz0 hz1 hz2 rfl _ 0 [] rfl (World.ownsRow_nil _ _ _ _) ad cs.length c (ci cs) rfl (by rw [ci_length]; omega) HS.out (ci_one cs) (by simp only [maxLen]; omega) (by omega) (Nat.le_refl _) ?_
    intro v1 w1 o1 g1 f1
    have HC := Hid.of (HPo.out v1 w1 (by simpa using o1) (up_grownBy (Up.refl w) g1 (fun g hg => by cases hg)))
    clear o1 g1 f1 HPo HS
    simp only [Act.put, List.setIfInBounds_toArray, List.set_cons_zero, List.set_cons_succ]
    go_wp2_with fail
    refine HC.out.mono ?_
    rintro e w2 ⟨D', s', fs, gs, ws, w3, rfl, q1, q2, q3, q4, q5⟩
    dsimp only
    have HFr := Hid.of (q1.up q3.up)
    have HDd := Hid.of (HD.out.died (q1.up q3.up) (q2.up q3.up) hT)
    have HLd := Hid.of q3
    have HLF := Hid.of q4
    have HE := Hid.of q5
    have HN := Hid.of (show s'.nf.map (fun p => (p.1, p.2.nb)) = lfs cs 1 gs ws from q3.ld.trans q5)
    have HLn := Hid.of (show s'.nf.length ≤ 1000000 by
      have h1 := congrArg List.length (q3.ld.trans q5)
      have h2 := q4.len HF.out
      have h3 := HF.out.len
      rw [List.length_map] at h1
      rw [lfs_len] at h1
      omega)
    clear q1 q2 q3 q4 q5 HC
    go_wp2_with fail
    refine (Files_gen w2 HLd.out.ok HLd.out.st.1 (by have := HLn.out; omega)).mono ?_
    rintro e w4 ⟨a4, fs4, c4, rfl, o4, u4, e4⟩
    dsimp only
    have HE4 := Hid.of (show fs4.map pr = srF (lfs cs 1 gs ws) by rw [← HN.out, ← fsOf_srF]; exact e4)
    have HO4 := Hid.of o4
    have HU4 := Hid.of u4
    have HL4 := Hid.of (show List.length fs4 ≤ 1000000 by
      have h1 := congrArg List.length HE4.out
      rw [List.length_map, (srF_perm HLF.out.ndl).length_eq, ← HN.out, List.length_map] at h1
      have := HLn.out
      omega)
    have HS4 := Hid.of (show ((srF (lfs cs 1 gs ws)).map fun p => p.2.length).sum ≤ 1099511627776 from HLF.out.sum HF.out (srF_perm HLF.out.ndl))
    have HG4 := Hid.of (show ∀ g ∈ fs4, g.ds.length ≤ 1099511627776 from fun g hg => by
      have h1 : pr g ∈ srF (lfs cs 1 gs ws) := by rw [← HE4.out]; exact List.mem_map_of_mem hg
      have h2 := mem_le_sum (List.mem_map_of_mem (f := fun p : List UInt8 × List UInt8 => p.2.length) h1)
      have h3 := HS4.out
      exact Nat.le_trans h2 h3)
    clear o4 u4 e4
    go_wp2_with fail
    refine (copies_walk a4 c4 fs4 w4 HO4.out.fsl HL4.out HG4.out).mono ?_
    rintro e w5 ⟨a5, fs5, c5, rfl, o5, u5, e5⟩
    dsimp only
    have HE5 := Hid.of (show fs5.map pr = srF (lfs cs 1 gs ws) from e5.trans HE4.out)
    have HO5 := Hid.of o5
    have HU5 := Hid.of (HU4.out.trans u5)
    have HL5 := Hid.of (show List.length fs5 ≤ 1000000 by
      have h1 := congrArg List.length e5
      rw [List.length_map, List.length_map] at h1
      have := HL4.out
      omega)
    have HZ := Hid.of (show ldE 1099511627776 fs5 = 0 from ldE_ok HE5.out (fun p hp => HLF.out.nms HF.out p ((srF_mem HLF.out.ndl).1 hp)) (srF_nd HLF.out.ndl) HS4.out)
    clear o5 u5 e5
    go_wp2_with fail
    refine (Load_gen 1099511627776 a5 fs5 c5 w5 HO5.out.fsl HL5.out (HDd.out.up HU5.out).ml (by have := HLow.out; have := HFr.out.size; have := HU5.out.size; omega)).mono ?_
    rintro e w6 ⟨u6, h6⟩
    rcases h6 with ⟨h0, _⟩ | ⟨_, D6, s6, w7, u7, rfl, l6⟩
    · exact absurd HZ.out h0
    dsimp only
    have HU6 := Hid.of (HU5.out.trans u6)
    have HLd6 := Hid.of l6
    have HN6 := Hid.of (show fsOf s6.nf = srF (lfs cs 1 gs ws) by
      rw [fsOf_srF, show s6.nf.map (fun p => (p.1, p.2.nb)) = fs5.map pr from l6.ld, HE5.out, srF_srF HLF.out.ndl])
    have HLn6 := Hid.of (show s6.nf.length ≤ 1099511627776 by have := l6.ld.len; have := HL5.out; omega)
    clear u6 u7 l6
    go_wp2_with fail
    refine (Files_gen w6 HLd6.out.ok HLd6.out.st.1 HLn6.out).mono ?_
    rintro e w8 ⟨a8, fs8, c8, rfl, o8, u8, e8⟩
    dsimp only
    have HU8 := Hid.of (HU6.out.trans u8)
    have HFin := Hid.of (show FsO w8 w.heap.size a8 fs8 c8 ∧ fs8.map pr = srF (lfs cs 1 gs ws) from ⟨o8.low (by have := HFr.out.size; have := HU6.out.size; omega), e8.trans HN6.out⟩)
    clear o8 u8 e8
    go_wp2
    go_ret2
    exact ⟨a8, fs8, c8, gs, ws, rfl, HFin.out.1, HFr.out.up HU8.out, HDd.out.up HU8.out, HLF.out, HFin.out.2⟩
end Go.Proofs.YtaibjeehjhlicaaGreatDoor
