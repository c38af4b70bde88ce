import Derived.Test.YtepakbghhnkcfaaDoorJc
import Derived.Test.YtepakbghhnkcfaaDoorJe
import Derived.SizedLaws
import Derived.ProofKit
import Derived.OpenShut
import Derived.ChangeSame
import Derived.WideKeyArgs
import Derived.DataReads
namespace Go.Proofs.YtepakbghhnkcfaaDoor
open Go.RowKit Go.Shelf TextNum ModNum
/-- a disk whose machine died -/
abbrev ddS (s : DD) : DD := { s with acts := s.acts, unt := s.unt, flt := s.flt, dead := true }
theorem DOk.died {w w' : World} {B D T : Nat} {s : DD} (h : DOk w B D T s) (f : Fr (fun k => k = D) w w') (a : At w' D 82 ((dcl s).set 2 (.bool true))) (hT : T + 1 ≤ 100000) : DOk w' B D (T + 1) (ddS s) := by
  have g : w.grownBy w' (some D) := ⟨f.os, f.tape, f.output, f.size, fun k hk hr => f.block k hk (fun e => hr (by rw [e]))⟩
  exact (h.acted g s.acts s.unt s.flt true a (by have := h.num; omega) hT).1
/-- ints in cells -/
def ci (l : List Int) : List Value := l.map fun c => Value.int .i64 c
theorem ci_length (l : List Int) : (ci l).length = l.length := by simp [ci]
theorem ci_one (l : List Int) : ∀ u ∈ ci l, u.oneCell' = true := fun u hu => by
  obtain ⟨c, _, rfl⟩ := List.mem_map.1 hu
  rfl
/-- a list of ints that is given -/
def SI (w : World) (v : Value) (cs : List Int) : Prop :=
  ∃ a c, v = .slice a cs.length c ∧ cs.length ≤ c ∧ c ≤ maxLen ∧ (a = none → cs = [] ∧ c = 0) ∧ ∀ ad, a = some ad → (cs ≠ [] → ad.spot = none) ∧ ∀ j u, (ci cs)[j]? = some u → w.cell? (ad.add j) = some u
theorem SI.up {w w' : World} {v : Value} {cs : List Int} (h : SI w v cs) (k : Up w w') : SI w' v cs := by
  obtain ⟨a, c, rfl, h1, h2, h3, h4⟩ := h
  exact ⟨a, c, rfl, h1, h2, h3, fun ad e => ⟨(h4 ad e).1, fun j u hj => k.cell ((h4 ad e).2 j u hj)⟩⟩
theorem sint_own {w : World} {N : Nat} {v : Value} {cs : List Int} (h : w.ownsRow N 3 1 v cs.length (ci cs)) : Sint w v cs := by
  obtain ⟨a, c, rfl⟩ := row_len h
  refine ⟨a, c, rfl, ?_, fun i hi => ?_⟩
  · rcases h.2 with ⟨_, h0⟩ | ⟨g, cap, cur, e, _, _, hc, _⟩
    · omega
    · injection e with _ _ e3
      omega
  · obtain ⟨g, rfl, _, hx, hc⟩ := own_get h hi
    refine ⟨g, 0, rfl, ?_⟩
    rw [Nat.zero_add, hc]
    simp [ci]
theorem Tryd.infoInt : (Tryd.prog.info? 3).map (fun i => (i.zero, i.size, i.bytes)) = some (some (.int .i64 0), 1, 8) := by kernel_rfl
/-- what is known of the files that a crash leaves -/
structure LF (s : DD) (cs : List Int) (gs : LG) (ws : List WL) : Prop where
  nd : (gs.map Prod.fst).Nodup
  nm : ∀ l, l ∈ gs.map Prod.fst ↔ (nrun (s.chs.take (cz cs 0 s.chs.length)) s.las l).isSome = true
  fl : ∀ p ∈ gs, p.2 ∈ fls s ∧ nrun (s.chs.take (cz cs 0 s.chs.length)) s.las p.1 = some p.2.b
  pm : List.Perm ws (wls gs)
  so : List.Pairwise (fun x y : WL => x.l.tn ≤ y.l.tn) ws
theorem LF.len {s : DD} {cs : List Int} {gs : LG} {ws : List WL} {X : Nat} (h : LF s cs gs ws) (hF : CF s X) : gs.length ≤ (fls s).length := by
  have h1 := len_sub (ys := (fls s).map (·.b)) (nodup_b h.fl h.nd (hF.inj _)) (fun x hx => by
    obtain ⟨p, hp, rfl⟩ := List.mem_map.1 hx
    exact List.mem_map.2 ⟨p.2, (h.fl p hp).1, rfl⟩)
  rwa [List.length_map, List.length_map] at h1
theorem LF.sum {s : DD} {cs : List Int} {gs : LG} {ws : List WL} {X : Nat} (h : LF s cs gs ws) (hF : CF s X) {L : List (List UInt8 × List UInt8)} (hL : L.Perm (lfs cs 1 gs ws)) : (L.map fun p => p.2.length).sum ≤ 1099511627776 := by
  have hw : ∀ x ∈ ws, x.l.p + x.l.ds.length ≤ X := fun x hx => by
    obtain ⟨hi, hl⟩ := wls_mem (h.pm.mem_iff.1 hx)
    exact (hF.sz _ (h.fl _ (List.getElem_mem hi)).1).2 _ hl
  have h1 := sum_leX (X := X) (L.map fun p => p.2.length) (fun x hx => by
    obtain ⟨p, hp, rfl⟩ := List.mem_map.1 hx
    exact lfs_mem (cs := cs) (k0 := 1) (fun p hp => (hF.sz _ (h.fl p hp).1).1) hw p (hL.mem_iff.1 hp))
  rw [List.length_map, hL.length_eq, lfs_len] at h1
  have h2 := Nat.mul_le_mul_right X (h.len hF)
  have := hF.all
  omega
theorem LF.nms {s : DD} {cs : List Int} {gs : LG} {ws : List WL} {X : Nat} (h : LF s cs gs ws) (hF : CF s X) : ∀ p ∈ lfs cs 1 gs ws, isNm p.1 = true := fun p hp => by
  have h1 : p.1 ∈ gs.map Prod.fst := by rw [← lfs_fst cs 1 gs ws]; exact List.mem_map_of_mem hp
  obtain ⟨b, hb⟩ := Option.isSome_iff_exists.1 ((h.nm _).1 h1)
  exact (hF.mem _ _ b hb).2
theorem LF.ndl {s : DD} {cs : List Int} {gs : LG} {ws : List WL} (h : LF s cs gs ws) : ((lfs cs 1 gs ws).map Prod.fst).Nodup := by rw [lfs_fst]; exact h.nd
abbrev pr (g : GF) : List UInt8 × List UInt8 := (g.nm.data.toList, g.ds)
theorem ldE_ok {fs : List GF} {L : List (List UInt8 × List UInt8)} (h : fs.map pr = L) (h1 : ∀ p ∈ L, isNm p.1 = true) (h2 : (L.map Prod.fst).Nodup) (h3 : (L.map fun p => p.2.length).sum ≤ 1099511627776) : ldE 1099511627776 fs = 0 := by
  subst h
  unfold ldE
  rw [if_neg (by omega), if_neg, if_neg, if_neg]
  · rw [List.map_map] at h3
    have : (fs.map fun g => g.ds.length).sum ≤ 1099511627776 := h3
    omega
  · rw [List.map_map] at h2
    exact fun k => k h2
  · exact fun k => k (fun g hg => h1 (pr g) (List.mem_map_of_mem hg))
theorem mem_le_sum : ∀ {l : List Nat} {x : Nat}, x ∈ l → x ≤ l.sum
  | a :: r, x, h => by
    rw [List.sum_cons]
    rcases List.mem_cons.1 h with rfl | h
    · omega
    · have := mem_le_sum h
      omega
set_option maxRecDepth 100000 in
set_option maxHeartbeats 4000000 in
theorem after_gen (B D T X : Nat) (s : DD) (v : Value) (cs : List Int) (w : World) (hD : DOk w B D T s) (hS : SI w v cs) (hF : CF s X) (hn0 : s.n0 + T + T ≤ 1000000) (hcl : cs.length ≤ 17592186044416) (hT : T + 1 ≤ 100000) :
    Calls Tryd.prog 26 #[pv D, v] w fun e w' => ∃ a fs c gs ws, e = .returned (.tuple #[.slice a (List.length fs) c, .bool true]) ∧ FsO w' w.heap.size a fs c ∧ Fr (fun k => k = D) w w' ∧ DOk w' B D (T + 1) (ddS s) ∧ LF s cs gs ws ∧ fs.map pr = srF (lfs cs 1 gs ws) := by
  have HD := Hid.of hD
  have HF := Hid.of hF
  have HML := Hid.of hD.ml
  have HLow := Hid.of (show 0 < w.heap.size by have := hD.low; have := hD.hB; omega)
  have HPost : ∀ (v1 : Value) (w1 : World), w1.ownsRow w.heap.size 3 1 v1 cs.length (ci cs) → Up w w1 →
      Calls Tryd.prog 52 #[pv D, v1] w1 fun e w' => ∃ D' s' fs gs ws w3, e = .returned (pv D') ∧ Fr (fun k => k = D) w w3 ∧ At w3 D 82 ((dcl s).set 2 (.bool true)) ∧ Laid w3 w' D' s.room fs s' ∧ LF s cs gs ws ∧ fs.map pr = lfs cs 1 gs ws := fun v1 w1 o1 u1 => by
    refine (Crash_gen B D T X s v1 cs w1 (HD.out.up u1) (sint_own o1) (fun g hg => ?_) hF hn0 (by omega)).mono ?_
    · have h1 := World.ownsRow.lt o1 g hg
      have h2 := lt_of_at HD.out.disk
      exact ⟨h1.2, by omega⟩
    · rintro e w' ⟨D', s', fs, gs, ws, w3, rfl, q1, q2, q3, q4, q5, q6, q7, q8, q9⟩
      exact ⟨D', s', fs, gs, ws, w3, rfl, ((Fr.refl _ w).up u1).trans q1 (fun g hg => .inl hg), q2, q3, ⟨q4, q5, q6, q7, q8⟩, q9⟩
  have HPo := Hid.of HPost
  clear HPost hD hF
  obtain ⟨i0, hi, hz0, hz1, hz2⟩ := info_parts Tryd.infoInt
  obtain ⟨a, c, rfl, h1, h2, h3, h4⟩ := hS
  cases a with
  | none =>
    obtain ⟨rfl, rfl⟩ := h3 rfl
    clear h4 h3 h2 h1
    have HC := Hid.of (HPo.out (.slice none 0 0) w (World.ownsRow_nil _ _ _ _) (Up.refl _))
    clear HPo
    go_enter Tryd.func26, Tryd.ntmps26
    go_wp2_with fail
    refine HC.out.mono ?_
    rintro e w2 ⟨D', s', fs, gs, ws, w3, rfl, q1, q2, q3, q4, q5⟩
    dsimp only
    have HFr := Hid.of (q1.up q3.up)
    have HDd := Hid.of (HD.out.died (q1.up q3.up) (q2.up q3.up) hT)
    have HLd := Hid.of q3
    have HLF := Hid.of q4
    have HE := Hid.of q5
    have HN := Hid.of (show s'.nf.map (fun p => (p.1, p.2.nb)) = lfs ([] : List Int) 1 gs ws from q3.ld.trans q5)
    have HLn := Hid.of (show s'.nf.length ≤ 1000000 by
      have h1 := congrArg List.length (q3.ld.trans q5)
      have h2 := q4.len HF.out
      have h3 := HF.out.len
      rw [List.length_map] at h1
      rw [lfs_len] at h1
      omega)
    clear q1 q2 q3 q4 q5 HC
    go_wp2_with fail
    refine (Files_gen w2 HLd.out.ok HLd.out.st.1 (by have := HLn.out; omega)).mono ?_
    rintro e w4 ⟨a4, fs4, c4, rfl, o4, u4, e4⟩
    dsimp only
    have HE4 := Hid.of (show fs4.map pr = srF (lfs ([] : List Int) 1 gs ws) by rw [← HN.out, ← fsOf_srF]; exact e4)
    have HO4 := Hid.of o4
    have HU4 := Hid.of u4
    have HL4 := Hid.of (show List.length fs4 ≤ 1000000 by
      have h1 := congrArg List.length HE4.out
      rw [List.length_map, (srF_perm HLF.out.ndl).length_eq, ← HN.out, List.length_map] at h1
      have := HLn.out
      omega)
    have HS4 := Hid.of (show ((srF (lfs ([] : List Int) 1 gs ws)).map fun p => p.2.length).sum ≤ 1099511627776 from HLF.out.sum HF.out (srF_perm HLF.out.ndl))
    have HG4 := Hid.of (show ∀ g ∈ fs4, g.ds.length ≤ 1099511627776 from fun g hg => by
      have h1 : pr g ∈ srF (lfs ([] : List Int) 1 gs ws) := by rw [← HE4.out]; exact List.mem_map_of_mem hg
      have h2 := mem_le_sum (List.mem_map_of_mem (f := fun p : List UInt8 × List UInt8 => p.2.length) h1)
      have h3 := HS4.out
      exact Nat.le_trans h2 h3)
    clear o4 u4 e4
    go_wp2_with fail
    refine (copies_walk a4 c4 fs4 w4 HO4.out.fsl HL4.out HG4.out).mono ?_
    rintro e w5 ⟨a5, fs5, c5, rfl, o5, u5, e5⟩
    dsimp only
    have HE5 := Hid.of (show fs5.map pr = srF (lfs ([] : List Int) 1 gs ws) from e5.trans HE4.out)
    have HO5 := Hid.of o5
    have HU5 := Hid.of (HU4.out.trans u5)
    have HL5 := Hid.of (show List.length fs5 ≤ 1000000 by
      have h1 := congrArg List.length e5
      rw [List.length_map, List.length_map] at h1
      have := HL4.out
      omega)
    have HZ := Hid.of (show ldE 1099511627776 fs5 = 0 from ldE_ok HE5.out (fun p hp => HLF.out.nms HF.out p ((srF_mem HLF.out.ndl).1 hp)) (srF_nd HLF.out.ndl) HS4.out)
    clear o5 u5 e5
    go_wp2_with fail
    refine (Load_gen 1099511627776 a5 fs5 c5 w5 HO5.out.fsl HL5.out (HDd.out.up HU5.out).ml (by have := HLow.out; have := HFr.out.size; have := HU5.out.size; omega)).mono ?_
    rintro e w6 ⟨u6, h6⟩
    rcases h6 with ⟨h0, _⟩ | ⟨_, D6, s6, w7, u7, rfl, l6⟩
    · exact absurd HZ.out h0
    dsimp only
    have HU6 := Hid.of (HU5.out.trans u6)
    have HLd6 := Hid.of l6
    have HN6 := Hid.of (show fsOf s6.nf = srF (lfs ([] : List Int) 1 gs ws) by
      rw [fsOf_srF, show s6.nf.map (fun p => (p.1, p.2.nb)) = fs5.map pr from l6.ld, HE5.out, srF_srF HLF.out.ndl])
    have HLn6 := Hid.of (show s6.nf.length ≤ 1099511627776 by have := l6.ld.len; have := HL5.out; omega)
    clear u6 u7 l6
    go_wp2_with fail
    refine (Files_gen w6 HLd6.out.ok HLd6.out.st.1 HLn6.out).mono ?_
    rintro e w8 ⟨a8, fs8, c8, rfl, o8, u8, e8⟩
    dsimp only
    have HU8 := Hid.of (HU6.out.trans u8)
    have HFin := Hid.of (show FsO w8 w.heap.size a8 fs8 c8 ∧ fs8.map pr = srF (lfs ([] : List Int) 1 gs ws) from ⟨o8.low (by have := HFr.out.size; have := HU6.out.size; omega), e8.trans HN6.out⟩)
    clear o8 u8 e8
    go_wp2
    go_ret2
    exact ⟨a8, fs8, c8, gs, ws, rfl, HFin.out.1, HFr.out.up HU8.out, HDd.out.up HU8.out, HLF.out, HFin.out.2⟩
  | some ad =>
    have HS := Hid.of (h4 ad rfl).2
    clear h4 h3
    go_enter Tryd.func26, Tryd.ntmps26
    go_wp2_with (with_reducible show wpList _ _ _ ({ dst := _, op := Op.call { callee := Callee.builtin Builtin.append, args := _, argTypes := _ }, type := _, pos := _, after := _, guard := _ } :: _) _ _; refine Shut.out ?_)
    show wpList _ _ _ _ _ _
    refine wpList_append_frs rfl _ _ 42 rfl w.heap.size 3 i0 (.int .i64 0) 8 Tryd.underlying42 hi hz0 hz1 hz2 rfl _ 0 [] rfl (World.ownsRow_nil _ _ _ _) ad cs.length c (ci cs) rfl (by rw [ci_length]; omega) HS.out (ci_one cs) (by simp only [maxLen]; omega) (by omega) (Nat.le_refl _) ?_
    intro v1 w1 o1 g1 f1
    have HC := Hid.of (HPo.out v1 w1 (by simpa using o1) (up_grownBy (Up.refl w) g1 (fun g hg => by cases hg)))
    clear o1 g1 f1 HPo HS
    simp only [Act.put, List.setIfInBounds_toArray, List.set_cons_zero, List.set_cons_succ]
    go_wp2_with fail
    refine HC.out.mono ?_
    rintro e w2 ⟨D', s', fs, gs, ws, w3, rfl, q1, q2, q3, q4, q5⟩
    dsimp only
    have HFr := Hid.of (q1.up q3.up)
    have HDd := Hid.of (HD.out.died (q1.up q3.up) (q2.up q3.up) hT)
    have HLd := Hid.of q3
    have HLF := Hid.of q4
    have HE := Hid.of q5
    have HN := Hid.of (show s'.nf.map (fun p => (p.1, p.2.nb)) = lfs cs 1 gs ws from q3.ld.trans q5)
    have HLn := Hid.of (show s'.nf.length ≤ 1000000 by
      have h1 := congrArg List.length (q3.ld.trans q5)
      have h2 := q4.len HF.out
      have h3 := HF.out.len
      rw [List.length_map] at h1
      rw [lfs_len] at h1
      omega)
    clear q1 q2 q3 q4 q5 HC
    go_wp2_with fail
    refine (Files_gen w2 HLd.out.ok HLd.out.st.1 (by have := HLn.out; omega)).mono ?_
    rintro e w4 ⟨a4, fs4, c4, rfl, o4, u4, e4⟩
    dsimp only
    have HE4 := Hid.of (show fs4.map pr = srF (lfs cs 1 gs ws) by rw [← HN.out, ← fsOf_srF]; exact e4)
    have HO4 := Hid.of o4
    have HU4 := Hid.of u4
    have HL4 := Hid.of (show List.length fs4 ≤ 1000000 by
      have h1 := congrArg List.length HE4.out
      rw [List.length_map, (srF_perm HLF.out.ndl).length_eq, ← HN.out, List.length_map] at h1
      have := HLn.out
      omega)
    have HS4 := Hid.of (show ((srF (lfs cs 1 gs ws)).map fun p => p.2.length).sum ≤ 1099511627776 from HLF.out.sum HF.out (srF_perm HLF.out.ndl))
    have HG4 := Hid.of (show ∀ g ∈ fs4, g.ds.length ≤ 1099511627776 from fun g hg => by
      have h1 : pr g ∈ srF (lfs cs 1 gs ws) := by rw [← HE4.out]; exact List.mem_map_of_mem hg
      have h2 := mem_le_sum (List.mem_map_of_mem (f := fun p : List UInt8 × List UInt8 => p.2.length) h1)
      have h3 := HS4.out
      exact Nat.le_trans h2 h3)
    clear o4 u4 e4
    go_wp2_with fail
    refine (copies_walk a4 c4 fs4 w4 HO4.out.fsl HL4.out HG4.out).mono ?_
    rintro e w5 ⟨a5, fs5, c5, rfl, o5, u5, e5⟩
    dsimp only
    have HE5 := Hid.of (show fs5.map pr = srF (lfs cs 1 gs ws) from e5.trans HE4.out)
    have HO5 := Hid.of o5
    have HU5 := Hid.of (HU4.out.trans u5)
    have HL5 := Hid.of (show List.length fs5 ≤ 1000000 by
      have h1 := congrArg List.length e5
      rw [List.length_map, List.length_map] at h1
      have := HL4.out
      omega)
    have HZ := Hid.of (show ldE 1099511627776 fs5 = 0 from ldE_ok HE5.out (fun p hp => HLF.out.nms HF.out p ((srF_mem HLF.out.ndl).1 hp)) (srF_nd HLF.out.ndl) HS4.out)
    clear o5 u5 e5
    go_wp2_with fail
    refine (Load_gen 1099511627776 a5 fs5 c5 w5 HO5.out.fsl HL5.out (HDd.out.up HU5.out).ml (by have := HLow.out; have := HFr.out.size; have := HU5.out.size; omega)).mono ?_
    rintro e w6 ⟨u6, h6⟩
    rcases h6 with ⟨h0, _⟩ | ⟨_, D6, s6, w7, u7, rfl, l6⟩
    · exact absurd HZ.out h0
    dsimp only
    have HU6 := Hid.of (HU5.out.trans u6)
    have HLd6 := Hid.of l6
    have HN6 := Hid.of (show fsOf s6.nf = srF (lfs cs 1 gs ws) by
      rw [fsOf_srF, show s6.nf.map (fun p => (p.1, p.2.nb)) = fs5.map pr from l6.ld, HE5.out, srF_srF HLF.out.ndl])
    have HLn6 := Hid.of (show s6.nf.length ≤ 1099511627776 by have := l6.ld.len; have := HL5.out; omega)
    clear u6 u7 l6
    go_wp2_with fail
    refine (Files_gen w6 HLd6.out.ok HLd6.out.st.1 HLn6.out).mono ?_
    rintro e w8 ⟨a8, fs8, c8, rfl, o8, u8, e8⟩
    dsimp only
    have HU8 := Hid.of (HU6.out.trans u8)
    have HFin := Hid.of (show FsO w8 w.heap.size a8 fs8 c8 ∧ fs8.map pr = srF (lfs cs 1 gs ws) from ⟨o8.low (by have := HFr.out.size; have := HU6.out.size; omega), e8.trans HN6.out⟩)
    clear o8 u8 e8
    go_wp2
    go_ret2
    exact ⟨a8, fs8, c8, gs, ws, rfl, HFin.out.1, HFr.out.up HU8.out, HDd.out.up HU8.out, HLF.out, HFin.out.2⟩
end Go.Proofs.YtepakbghhnkcfaaDoor
namespace Go.Proofs.YtepakbghhnkcfaaDoor
open Go.RowKit Go.Shelf TextNum ModNum
set_option maxRecDepth 100000 in
set_option maxHeartbeats 1000000 in
theorem within_gen (n : Int) (hi : Nat) (hb : hi ≤ 1099511627776) (w : World) : Calls Tryd.prog 7 #[.int .i64 n, .int .i64 0, .int .i64 (hi : Int)] w fun e w' => e = .returned (.int .i64 (((n % ((hi : Int) + 1)).toNat : Nat) : Int)) ∧ w' = w := by
  have HR := Hid.of (show (((n % ((hi : Int) + 1)).toNat : Nat) : Int) = (if n.tmod ((hi : Int) + 1) < 0 then n.tmod ((hi : Int) + 1) + ((hi : Int) + 1) else n.tmod ((hi : Int) + 1)) by
    rw [tmod_emod _ _ (by omega)]
    have := Int.emod_nonneg n (show (hi : Int) + 1 ≠ 0 by omega)
    omega)
  generalize (n % ((hi : Int) + 1)).toNat = m at HR ⊢
  have hb1 := Int.tmod_lt_of_pos n (show (0 : Int) < (hi : Int) + 1 by omega)
  have hb2 : -((hi : Int) + 1) < n.tmod ((hi : Int) + 1) := by
    have h3 := Int.tmod_lt_of_pos (-n) (show (0 : Int) < (hi : Int) + 1 by omega)
    rw [Int.neg_tmod] at h3
    omega
  have hm0 : (((hi : Int) + 1) == 0) = false := by rw [beq_eq_false_iff_ne]; omega
  generalize hr : n.tmod ((hi : Int) + 1) = r at *
  by_cases hneg : r < 0
  · rw [if_pos hneg] at HR
    go_enter Tryd.func7, Tryd.ntmps7
    go_wp2
    go_ret
    rw [HR.out, show r + ((hi : Int) + 1) = r + hi + 1 by omega]
    exact ⟨rfl, rfl⟩
  · rw [if_neg hneg] at HR
    go_enter Tryd.func7, Tryd.ntmps7
    go_wp2
    go_ret
    rw [HR.out]
    exact ⟨rfl, rfl⟩
set_option maxRecDepth 100000 in
set_option maxHeartbeats 1000000 in
theorem short_walk (v : Value) (ds : List UInt8) (w : World) (hd : Sb w v ds) (hl : ds.length ≤ 140737488355328) :
    Calls Tryd.prog 25 #[v] w fun e w' => ∃ v', e = .returned v' ∧ Ow w' w.heap.size v' (ds.take 1048576) ∧ Up w w' := by
  obtain ⟨a, c, rfl, h1, _⟩ := id hd
  have HD := Hid.of hd
  clear hd
  by_cases hlong : 1048576 < ds.length
  · have hz : (1048576 : Int) < (ds.length : Int) := by omega
    have hz2 : (1048576 : Int) ≤ (c : Int) := by omega
    have HT := Hid.of (HD.out.take 1048576 (by omega))
    have HC := Hid.of (copied_walk (.slice a 1048576 c) (ds.take 1048576) w HT.out (by rw [List.length_take]; omega))
    obtain ⟨ad, rfl⟩ : ∃ ad, a = some ad := by
      obtain ⟨a', c', e, _, _, h3, _⟩ := HD.out
      injection e with e1 e2 e3
      subst e1
      cases a with
      | none => have := (h3 rfl).1; rw [this] at hlong; simp at hlong
      | some ad => exact ⟨ad, rfl⟩
    go_enter Tryd.func25, Tryd.ntmps25
    go_wp2_with fail
    refine HC.out.mono ?_
    rintro e w2 ⟨v2, rfl, o2, u2⟩
    dsimp only
    go_wp2
    go_ret
    exact ⟨_, rfl, o2, u2⟩
  · have hz : ¬ (1048576 : Int) < (ds.length : Int) := by omega
    have HC := Hid.of (copied_walk (.slice a ds.length c) ds w HD.out hl)
    have HT := Hid.of (show ds.take 1048576 = ds from List.take_of_length_le (by omega))
    go_enter Tryd.func25, Tryd.ntmps25
    go_wp2_with fail
    refine HC.out.mono ?_
    rintro e w2 ⟨v2, rfl, o2, u2⟩
    dsimp only
    go_wp2
    go_ret
    rw [HT.out]
    exact ⟨_, rfl, o2, u2⟩
set_option maxRecDepth 100000 in
theorem Acts_gen {B D T : Nat} {s : DD} (w : World) (h : DOk w B D T s) : Calls Tryd.prog 24 #[pv D] w fun e w' => e = .returned (.int .i64 (s.acts : Int)) ∧ w' = w := by
  have c9 := h.disk.cell (i := 9) rfl
  clear h
  go_enter Tryd.func24, Tryd.ntmps24
  go_wp2
  go_ret
  exact ⟨rfl, rfl⟩
set_option maxRecDepth 100000 in
set_option maxHeartbeats 1000000 in
theorem Pending_gen {B D T : Nat} {s : DD} (w : World) (h : DOk w B D T s) : Calls Tryd.prog 23 #[pv D] w fun e w' => e = .returned (.int .i64 ((s.chs.length + lsd (fls s) : Nat) : Int)) ∧ Up w w' := by
  have hn := h.num
  obtain ⟨aC, cC, hvC⟩ := row_len h.rowC
  have c5 := h.disk.cell (i := 5) rfl
  have c7 := h.disk.cell (i := 7) rfl
  rw [hvC] at c5
  have c5' : w.drew.cell? ⟨D, 5, none⟩ = some (.slice aC s.chs.length cC) := c5
  have c7' : w.drew.cell? ⟨D, 7, none⟩ = some (.int .i64 (lsd (fls s) : Int)) := c7
  have h1 : s.chs.length ≤ 100000 := by omega
  have h2 : lsd (fls s) ≤ 100000 := by omega
  generalize s.chs.length = n1 at *
  generalize lsd (fls s) = n2 at *
  clear h hn hvC
  go_enter Tryd.func23, Tryd.ntmps23
  have mixed : Tryd.prog.follows .mixedOrders = true := by kernel_rfl
  go_wp2
  go_quiet (fail)
  go_wp2
  go_ret
  exact ⟨by go_num, (Up.refl w).drewN _⟩
/-- lists of bytes of one's own beside the disk -/
structure KR (w : World) (N D : Nat) (s : DD) (a : Option Addr) (c : Nat) (xs : List Value) (K : List (List UInt8)) : Prop where
  len : xs.length = K.length
  row : w.ownsRow N 29 1 (.slice a K.length c) K.length xs
  el : ∀ i (h : i < K.length) (h' : i < xs.length), Ow w N xs[i] K[i]
  nr : ∀ k, (Value.slice a K.length c).ownBlock = some k → ¬ own D s k
  ne : ∀ v ∈ xs, ∀ k, v.ownBlock = some k → ¬ own D s k
theorem KR.nil (w : World) (N D : Nat) (s : DD) : KR w N D s none 0 [] [] := ⟨rfl, World.ownsRow_nil _ _ _ _, (fun i h => by cases h), (fun k hk => by cases hk), fun v hv => by cases hv⟩
theorem KR.up {w w' : World} {N D : Nat} {s : DD} {a : Option Addr} {c : Nat} {xs : List Value} {K : List (List UInt8)} (h : KR w N D s a c xs K) (u : Up w w') : KR w' N D s a c xs K :=
  ⟨h.len, ow_up h.row u, fun i hi hx => ow_up (h.el i hi hx) u, h.nr, h.ne⟩
theorem KR.elv {w : World} {N D : Nat} {s : DD} {a : Option Addr} {c : Nat} {xs : List Value} {K : List (List UInt8)} (h : KR w N D s a c xs K) {v : Value} (hv : v ∈ xs) : ∃ ds, Ow w N v ds := by
  obtain ⟨i, hi, rfl⟩ := List.getElem_of_mem hv
  exact ⟨_, h.el i (by rw [← h.len]; exact hi) hi⟩
/-- behind an act of the disk -/
theorem KR.disk {w w' : World} {N D : Nat} {s s' : DD} {a : Option Addr} {c : Nat} {xs : List Value} {K : List (List UInt8)} (h : KR w N D s a c xs K) (f : Fr (own D s) w w') (n : Nw w.heap.size D s s') : KR w' N D s' a c xs K :=
  ⟨h.len, f.own h.row (fun g hg => h.nr g hg), fun i hi hx => f.own (h.el i hi hx) (fun g hg => h.ne _ (List.getElem_mem hx) g hg),
    fun k hk ho => (n k ho).elim (h.nr k hk) (fun h1 => by have := (World.ownsRow.lt h.row k hk).2; omega),
    fun v hv k hk ho => (n k ho).elim (h.ne v hv k hk) (fun h1 => by obtain ⟨ds, hd⟩ := h.elv hv; have := (World.ownsRow.lt hd k hk).2; omega)⟩
/-- behind an act that only touches the disk's own cell -/
theorem KR.same {w : World} {N D : Nat} {s s' : DD} {a : Option Addr} {c : Nat} {xs : List Value} {K : List (List UInt8)} (h : KR w N D s a c xs K) (n : ∀ k, own D s' k → own D s k) : KR w N D s' a c xs K :=
  ⟨h.len, h.row, h.el, fun k hk ho => h.nr k hk (n k ho), fun v hv k hk ho => h.ne v hv k hk (n k ho)⟩
theorem Tryd.infoSl1 : (Tryd.prog.info? 29).map (fun i => (i.zero, i.size, i.bytes)) = some (some (.slice none 0 0), 1, 24) := by kernel_rfl
theorem wpList_appK {W w : World} {B D T N q : Nat} {s : DD} {ops : Array Oper} {rest : List Oper} {o : Oper} {a : Act} {Q : Exit → Act → World → Prop} (hgd : o.guard = none) (x y : Operand)
    (ho : o.op = .call { callee := .builtin .append, args := #[x, y], argTypes := #[54, 54] }) (ax : Option Addr) (cx : Nat) (v : Value) (ds : List UInt8) (xs : List Value) (K : List (List UInt8)) (hx : a.eval x = .slice ax q cx) (hy : a.eval y = .slice (some ⟨w.heap.size, 0, none⟩) 1 1)
    (hR : KR w N D s ax cx xs K) (hq : K.length = q) (hv : Ow w N v ds) (hnv : ∀ k, v.ownBlock = some k → ¬ own D s k) (hD : DOk w B D T s) (hU : Up W w) (hN : 0 < N) (hW : W.heap.size ≤ N) (hNw : N ≤ w.heap.size) (hql : q ≤ 1048576)
    (Kk : ∀ ax2 cx2 w', KR w' N D s ax2 cx2 (xs ++ [v]) (K ++ [ds]) → DOk w' B D T s → Up W w' → wpList Tryd.prog ops Q rest (a.put o.dst (.slice ax2 (q + 1) cx2)) w') :
    wpList Tryd.prog ops Q (o :: rest) a (w.alloc (.cells #[v] 29)) := by
  obtain ⟨i1, hi1, hz0, hz1, hz2⟩ := info_parts Tryd.infoSl1
  have HUx := (Up.refl w).alloc (.cells #[v] 29)
  have hns : w.ownsRow N 29 1 (.slice ax q cx) q xs := by have := hR.row; rw [hq] at this; exact this
  have hnu := ow_up hns HUx
  have hone : v.oneCell' = true := by
    obtain ⟨a', c', rfl⟩ := row_len hv
    rfl
  refine wpList_append_frs hgd x y 54 ho N 29 i1 (.slice none 0 0) 24 Tryd.underlying54 hi1 hz0 hz1 hz2 rfl (.slice ax q cx) q _ hx hnu ⟨w.heap.size, 0, none⟩ 1 1 [v] hy rfl ?_ ?_ (by simp only [maxLen]; omega) (by omega) (Nat.le_trans hNw HUx.size) ?_
  · intro j u hu
    rw [Addr.add_lit]
    exact At.cell (at_new w 29 [v]) (i := 0 + j) (by rw [Nat.zero_add]; exact hu)
  · intro u hu
    obtain rfl := List.mem_singleton.1 hu
    exact hone
  intro v8 w8 o8 g8 f8
  obtain ⟨ax2, cx2, rfl⟩ := row_len o8
  have hDu := hD.up HUx
  have kp : ∀ u es, Ow w N u es → Ow w8 N u es := fun u es hu => World.ownsRow.kept (ow_up hu HUx) g8 (own_off (ow_up hu HUx) hnu (by decide))
  refine Kk ax2 cx2 w8 ⟨by simp [hR.len], by rw [List.length_append, hq]; exact o8, fun i hi hx => ?_, fun k hk ho => ?_, fun u hu k hk ho => ?_⟩ (hDu.beside hnu hN g8 (by have := hR.nr; rw [hq] at this; exact this)) (up_grownBy (hU.trans HUx) g8 (fun g hg => Nat.le_trans hW (World.ownsRow.lt hns g hg).1))
  · rcases Nat.lt_or_ge i xs.length with h1 | h1
    · rw [List.getElem_append_left h1, List.getElem_append_left (by rw [← hR.len]; exact h1)]
      exact kp _ _ (hR.el i _ h1)
    · have e : i = xs.length := by rw [List.length_append] at hx; simp at hx; omega
      subst e
      rw [List.getElem_append_right (Nat.le_refl _), List.getElem_append_right (by rw [hR.len]; exact Nat.le_refl _)]
      simp only [hR.len, Nat.sub_self, List.getElem_cons_zero]
      exact kp _ _ hv
  · rw [List.length_append, hq] at hk
    rcases f8 k hk with h1 | h1
    · exact hR.nr k (by rw [hq]; exact h1) ho
    · have := hD.lt ho
      have := HUx.size
      omega
  · rcases List.mem_append.1 hu with h1 | h1
    · exact hR.ne u h1 k hk ho
    · obtain rfl := List.mem_singleton.1 h1
      exact hnv k hk ho
/-- lists of bytes that are given -/
structure STs (w : World) (a : Option Addr) (ls : List (List UInt8)) (c : Nat) : Prop where
  cap : ls.length ≤ c
  cells : ∀ i (h : i < ls.length), ∃ b off u, a = some ⟨b, off, none⟩ ∧ w.cell? ⟨b, off + i, none⟩ = some u ∧ Sb w u ls[i]
  len : ∀ l ∈ ls, l.length ≤ 140737488355328
end Go.Proofs.YtepakbghhnkcfaaDoor
namespace Go.Proofs.YtepakbghhnkcfaaDoor
open Go.RowKit Go.Shelf TextNum ModNum
/-- what DiskPrefix's loop keeps -/
structure PJ (W w : World) (D : Nat) (s : DD) (a : Option Addr) (c : Nat) (xs : List Value) (K : List (List UInt8)) : Prop where
  ok : DOk w W.heap.size D (4 * K.length) s
  up : Up W w
  lo : ∀ k, own D s k → W.heap.size ≤ k
  kr : KR w W.heap.size D s a c xs K
  st : s.dead = false ∧ s.unt = 0 ∧ s.room = 1073741824 ∧ s.las = (fun _ => none) ∧ s.of = [] ∧ s.trn = K.length ∧ s.acts = 2 * K.length ∧ s.n0 = 0
  pf : PF s.chs s.nf K
  cw : CW s
  sz : ∀ ds ∈ K, ds ≠ [] ∧ ds.length ≤ 1048576
  kl : K.length ≤ 100
theorem PJ.upTo {W w w' : World} {D : Nat} {s : DD} {a : Option Addr} {c : Nat} {xs : List Value} {K : List (List UInt8)} (h : PJ W w D s a c xs K) (u : Up w w') : PJ W w' D s a c xs K :=
  ⟨h.ok.up u, h.up.trans u, h.lo, h.kr.up u, h.st, h.pf, h.cw, h.sz, h.kl⟩
theorem PF.nil : PF [] [] [] := ⟨rfl, rfl, fun i h => by cases h⟩
theorem PF.snoc {chs : List NA} {nf : LG} {K : List (List UInt8)} (h : PF chs nf K) {c : NA} {p : List UInt8 × FL} {ds : List UInt8} (h1 : p.1 = ltr K.length) (h2 : p.2.lb = []) (h3 : p.2.nb = ds) (h4 : ∃ l, p.2.lo = [l] ∧ l.p = 0 ∧ l.ds = ds ∧ l.tn = (K.length : Int)) (h5 : c.kd = 0) (h6 : c.s.data.toList = ltr K.length) (h7 : c.f = p.2.b) : PF (chs ++ [c]) (nf ++ [p]) (K ++ [ds]) := by
  have hn := h.nl
  have hc := h.cl
  refine ⟨by simp [hn], by simp [hc], fun i hi => ?_⟩
  rcases Nat.lt_or_ge i K.length with hl | hl
  · simp only [List.getElem_append_left hl, List.getElem_append_left (show i < nf.length by omega), List.getElem_append_left (show i < chs.length by omega)]
    exact h.fl i hl
  · have e : i = K.length := by rw [List.length_append] at hi; simp at hi; omega
    subst e
    have e1 : (nf ++ [p])[K.length]'(by simp [hn]) = p := by
      rw [List.getElem_append_right (by omega)]
      simp [hn]
    have e2 : (chs ++ [c])[K.length]'(by simp [hc]) = c := by
      rw [List.getElem_append_right (by omega)]
      simp [hc]
    have e3 : (K ++ [ds])[K.length]'(by simp) = ds := by
      rw [List.getElem_append_right (by omega)]
      simp
    rw [e1, e2, e3]
    exact ⟨h1, h2, h3, h4, h5, h6, h7⟩
theorem PF.names {chs : List NA} {nf : LG} {K : List (List UInt8)} (h : PF chs nf K) (hK : K.length ≤ 99) : ltr K.length ∉ nf.map (·.1) := fun hm => by
  obtain ⟨p, hp, e⟩ := List.mem_map.1 hm
  obtain ⟨i, hi, rfl⟩ := List.getElem_of_mem hp
  have hn := h.nl
  have := ltr_inj i (by omega) K.length (by omega) ((h.fl i (by omega)).1.symm.trans e)
  omega
theorem PF.usd {chs : List NA} {nf : LG} {K : List (List UInt8)} (h : PF chs nf K) (hs : ∀ ds ∈ K, ds.length ≤ 1048576) : usd nf ≤ K.length * 1048576 := by
  have h1 := sum_leX (X := 1048576) (nf.map fun p => p.2.nb.length) (fun x hx => by
    obtain ⟨p, hp, rfl⟩ := List.mem_map.1 hx
    obtain ⟨i, hi, rfl⟩ := List.getElem_of_mem hp
    have hn := h.nl
    rw [(h.fl i (by omega)).2.2.1]
    exact hs _ (List.getElem_mem _))
  rw [List.length_map, h.nl] at h1
  exact h1
theorem PF.lsd {chs : List NA} {nf : LG} {K : List (List UInt8)} (h : PF chs nf K) : lsd (nf.map (·.2)) = K.length := by
  have hn := h.nl
  have : (nf.map (·.2)).map (fun f => f.lo.length) = List.replicate nf.length 1 := by
    rw [List.map_map]
    refine List.eq_replicate_iff.2 ⟨by simp, fun x hx => ?_⟩
    obtain ⟨p, hp, rfl⟩ := List.mem_map.1 hx
    obtain ⟨i, hi, rfl⟩ := List.getElem_of_mem hp
    obtain ⟨_, _, _, ⟨l, hl, _⟩, _⟩ := h.fl i (by omega)
    show nf[i].2.lo.length = 1
    rw [hl]
    rfl
  unfold Go.Proofs.YtepakbghhnkcfaaDoor.lsd
  rw [this, List.sum_replicate_nat]
  omega
/-- one file more -/
theorem PJ.made {W w w3 w4 w5 : World} {D F bp b2 : Nat} {s s5 : DD} {a : Option Addr} {c : Nat} {xs : List Value} {K : List (List UInt8)} {ds : List UInt8} {vC vLo : Value} (h : PJ W w D s a c xs K) (hK : K.length ≤ 99)
    (a3 : Aft w w3 W.heap.size D (4 * K.length) s (crS (acS s) ⟨(ltr K.length).toArray⟩ F bp b2 vC vLo)) (u4 : Up w3 w4)
    (a5 : Aft w4 w5 W.heap.size D (4 * K.length + 2) (crS (acS s) ⟨(ltr K.length).toArray⟩ F bp b2 vC vLo) s5)
    (hs : ∃ vn vo vk ba bk, s5 = flS (acS (crS (acS s) ⟨(ltr K.length).toArray⟩ F bp b2 vC vLo)) F (wtF (fnew F) 0 ds vn vo vk ba bk (crS (acS s) ⟨(ltr K.length).toArray⟩ F bp b2 vC vLo).trn) ((crS (acS s) ⟨(ltr K.length).toArray⟩ F bp b2 vC vLo).trn + 1)) :
    DOk w5 W.heap.size D (4 * (K.length + 1)) s5 ∧ Up W w5 ∧ (∀ k, own D s5 k → W.heap.size ≤ k) ∧ KR w5 W.heap.size D s5 a c xs K ∧ (s5.dead = false ∧ s5.unt = 0 ∧ s5.room = 1073741824 ∧ s5.las = (fun _ => none) ∧ s5.of = [] ∧ s5.trn = K.length + 1 ∧ s5.acts = 2 * (K.length + 1) ∧ s5.n0 = 0) ∧ PF s5.chs s5.nf (K ++ [ds]) ∧ CW s5 := by
  obtain ⟨vn, vo, vk, ba, bk, rfl⟩ := hs
  obtain ⟨t1, t2, t3, t4, t5, t6, t7, t8⟩ := h.st
  have hnm : ltr K.length ∉ s.nf.map (·.1) := h.pf.names hK
  have e1 : drp s.nf (ltr K.length) = s.nf := drp_no hnm
  have e2 : gone s.nf (ltr K.length) = [] := gone_no hnm
  have hU3 := up_disk h.up h.lo a3.2.2
  have hL3 := lo_disk h.up h.lo a3.2.1
  have hU4 := hU3.trans u4
  have en : (crS (acS s) ⟨(ltr K.length).toArray⟩ F bp b2 vC vLo).nf = s.nf ++ [(ltr K.length, fnew F)] := by
    show drp s.nf (ltr K.length) ++ [(ltr K.length, fnew F)] = _
    rw [e1]
  have eo : (crS (acS s) ⟨(ltr K.length).toArray⟩ F bp b2 vC vLo).of = [] := by
    show s.of ++ gone s.nf (ltr K.length) = _
    rw [e2, t5]
    rfl
  have er := rpl_last a3.1 en (wtF (fnew F) 0 ds vn vo vk ba bk (crS (acS s) ⟨(ltr K.length).toArray⟩ F bp b2 vC vLo).trn)
  have hFn : ∀ f ∈ fls s, f.b ≠ F := fun f hf e => by
    have hp := (crS_perm (s := acS s) (nm := ⟨(ltr K.length).toArray⟩) (F := F) (bp := bp) (b2 := b2) (vC := vC) (vLo := vLo) h.ok.nd)
    have nd := a3.1.fnd
    rw [(hp.map (·.b)).nodup_iff, List.map_cons, List.nodup_cons] at nd
    exact nd.1 (List.mem_map.2 ⟨f, hf, e⟩)
  refine ⟨a5.1.more (by omega) (by omega), up_disk hU4 hL3 a5.2.2, lo_disk hU4 hL3 a5.2.1, ((h.kr.disk a3.2.2 a3.2.1).up u4).disk a5.2.2 a5.2.1, ⟨t1, ?_, t3, t4, eo, ?_, ?_, t8⟩, ?_, ?_⟩
  · show s.unt - 1 - 1 = 0
    omega
  · show s.trn + 1 = K.length + 1
    omega
  · show s.acts + 1 + 1 = 2 * (K.length + 1)
    omega
  · show PF (s.chs ++ [⟨0, ⟨(ltr K.length).toArray⟩, ⟨(ltr K.length).toArray⟩, F, bp, b2⟩]) (rpl (crS (acS s) ⟨(ltr K.length).toArray⟩ F bp b2 vC vLo).nf F _) (K ++ [ds])
    rw [er]
    refine h.pf.snoc rfl rfl ?_ ⟨_, rfl, rfl, rfl, ?_⟩ rfl rfl rfl
    · exact wr_nil ds
    · show ((s.trn : Nat) : Int) = _
      rw [t6]
  · have h1 : CW (crS (acS s) ⟨(ltr K.length).toArray⟩ F bp b2 vC vLo) := CW.cr (s := acS s) ⟨h.cw.cn, h.cw.now⟩ h.ok.nd (ltr_nm _ (by omega)) hFn
    exact CW.fl (s := acS (crS (acS s) ⟨(ltr K.length).toArray⟩ F bp b2 vC vLo)) ⟨h1.cn, h1.now⟩ rfl
/-- what a crash asks -/
theorem PJ.cf {W w : World} {D : Nat} {s : DD} {a : Option Addr} {c : Nat} {xs : List Value} {K : List (List UInt8)} (h : PJ W w D s a c xs K) : CF s 1048576 := by
  have hfl : fls s = s.nf.map (·.2) := by
    unfold fls
    rw [h.st.2.2.2.2.1, List.append_nil]
  have hn := h.pf.nl
  have hk := h.kl
  refine ⟨h.cw.cn.fit, h.cw.cn.mem, h.cw.cn.inj, fun f hf => ?_, ?_, ?_⟩
  · rw [hfl] at hf
    obtain ⟨p, hp, rfl⟩ := List.mem_map.1 hf
    obtain ⟨i, hi, rfl⟩ := List.getElem_of_mem hp
    obtain ⟨_, q2, _, ⟨l, hl, hp, hd, _⟩, _⟩ := h.pf.fl i (by omega)
    refine ⟨by rw [q2]; exact Nat.zero_le _, fun m hm => ?_⟩
    rw [hl] at hm
    obtain rfl := List.mem_singleton.1 hm
    rw [hp, hd]
    have := (h.sz _ (List.getElem_mem (show i < K.length by omega))).2
    omega
  · rw [hfl, List.length_map, hn]
    omega
  · rw [hfl, List.length_map, hn]
    omega
theorem PJ.pend {W w : World} {D : Nat} {s : DD} {a : Option Addr} {c : Nat} {xs : List Value} {K : List (List UInt8)} (h : PJ W w D s a c xs K) : s.chs.length + Go.Proofs.YtepakbghhnkcfaaDoor.lsd (fls s) = 2 * K.length := by
  have hfl : fls s = s.nf.map (·.2) := by
    unfold fls
    rw [h.st.2.2.2.2.1, List.append_nil]
  rw [hfl, h.pf.lsd, h.pf.cl]
  omega
/-- what is found -/
theorem PJ.found {W w : World} {D : Nat} {s : DD} {a : Option Addr} {c : Nat} {xs : List Value} {K : List (List UInt8)} (h : PJ W w D s a c xs K) {cs : List Int} {gs : LG} {ws : List WL} (hL : LF s cs gs ws) {fs : List GF} (hf : fs.map pr = srF (lfs cs 1 gs ws)) :
    fs.length = cz cs 0 K.length ∧ ∀ i (hi : i < fs.length) (hk : i < K.length), fs[i].nm = ⟨(ltr i).toArray⟩ ∧ fs[i].ds = K[i].take (cz cs (i + 1) K[i].length) := by
  have hfl : fls s = s.nf.map (·.2) := by
    unfold fls
    rw [h.st.2.2.2.2.1, List.append_nil]
  have h1 := hL.nm
  have h2 := hL.fl
  rw [h.pf.cl, h.st.2.2.2.1] at h1 h2
  rw [hfl] at h2
  have nb : (s.nf.map (·.2.b)).Nodup := by
    have := h.ok.fnd
    rw [hfl, List.map_map] at this
    exact this
  rw [h.pf.left h.kl nb (cz cs 0 K.length) (cz_le _ _ _) hL.nd h1 h2 hL.pm hL.so] at hf
  have hlen := congrArg List.length hf
  rw [List.length_map, List.length_map, List.length_range] at hlen
  refine ⟨hlen, fun i hi hk => ?_⟩
  have h3 := congrArg (fun l => l[i]?) hf
  simp only [List.getElem?_map, List.getElem?_eq_getElem hi, Option.map_some] at h3
  rw [List.getElem?_range (by omega)] at h3
  simp only [Option.map_some, Option.some.injEq, Prod.mk.injEq] at h3
  have hKi : K.getD i [] = K[i] := by
    rw [List.getD_eq_getElem?_getD, List.getElem?_eq_getElem hk]
    rfl
  rw [hKi] at h3
  refine ⟨?_, h3.2⟩
  rw [← h3.1]
end Go.Proofs.YtepakbghhnkcfaaDoor
namespace Go.Proofs.YtepakbghhnkcfaaDoor
open Go.RowKit Go.Shelf TextNum ModNum
theorem exec_cutSl {o : Oper} {ρ : Operand → Value} {x y : Operand} {w : World} {a : Option Addr} {n c k : Nat} (hk : k ≤ n) (hn : n ≤ c) (ho : o.op = .slice 29 x none (some y) none) (hx : ρ x = .slice a n c) (hy : ρ y = .int .i64 (k : Int)) (ha : a = none → c = 0) : (execOp ρ o).run Tryd.prog w = .ok (.value (.slice a k c)) w := by
  unfold execOp
  simp only [ho, hx]
  have h1 : (k : Int) ≤ (c : Int) := by omega
  cases a with
  | none =>
    obtain rfl := ha rfl
    obtain rfl : k = 0 := by omega
    go_simp
  | some p => go_simp
theorem nwS_cw (room M L : Nat) : CW (nwS room M L) := ⟨⟨NFit.nil _, (fun k l b e => by
    rw [List.take_nil] at e
    cases e), (fun k l l' b e => by
    rw [List.take_nil] at e
    cases e)⟩, rfl⟩
theorem cz_pos {cs : List Int} {k most : Nat} (h : k < cs.length) : cz cs k most = (cs[k] % ((most : Int) + 1)).toNat := dif_pos h
theorem cz_out {cs : List Int} {k most : Nat} (h : ¬ k < cs.length) : cz cs k most = 0 := dif_neg h
theorem si_cell {w : World} {a : Option Addr} {c : Nat} {cs : List Int} (h : SI w (.slice a cs.length c) cs) {i : Nat} (hi : i < cs.length) : ∃ b off, a = some ⟨b, off, none⟩ ∧ w.cell? ⟨b, off + i, none⟩ = some (.int .i64 cs[i]) := by
  obtain ⟨a', c', e, _, _, h3, h4⟩ := h
  injection e with e1 e2 e3
  subst e1
  cases a with
  | none => have := (h3 rfl).1; rw [this] at hi; cases hi
  | some ad =>
    obtain ⟨b, off, sp⟩ := ad
    obtain rfl : sp = none := (h4 _ rfl).1 (fun e => by rw [e] at hi; cases hi)
    refine ⟨b, off, rfl, ?_⟩
    have := (h4 _ rfl).2 i (.int .i64 cs[i]) (by simp [ci, hi])
    rw [Addr.add_lit] at this
    exact this
set_option maxRecDepth 100000 in
set_option maxHeartbeats 16000000 in
theorem prefix_walk (a : Option Addr) (ls : List (List UInt8)) (c : Nat) (vc : Value) (cs : List Int) (w : World) (hP : STs w a ls c) (hC : SI w vc cs) (hcl : cs.length ≤ 17592186044416) (hll : ls.length ≤ 4611686018427387904) (hG : ML w) (hV : 0 < w.heap.size) :
    Calls Tryd.prog 6 #[.slice a ls.length c, vc] w fun e w' => e = .returned (.bool true) ∧ Up w w' := by
  have HP := Hid.of hP
  have HC := Hid.of hC
  obtain ⟨ac, cc, rfl, hcc, _⟩ := hC
  have HNew := Hid.of (New_gen 1073741824 w.heap.size (by omega) w hG (Nat.le_refl _) hV)
  have HV := Hid.of hV
  have hcap := hP.cap
  clear hP hG hV
  go_enter Tryd.func6, Tryd.ntmps6
  go_wp2_with fail
  refine HNew.out.mono ?_
  rintro e w2 ⟨D, M, L, rfl, k2, l2, u2⟩
  have HJ2 := Hid.of (show PJ w w2 D (nwS 1073741824 M L) none 0 [] [] from ⟨k2, u2, l2, KR.nil _ _ _ _, ⟨rfl, rfl, rfl, rfl, rfl, rfl, rfl, rfl⟩, PF.nil, nwS_cw _ _ _, (fun d hd => by cases hd), Nat.zero_le _⟩)
  clear k2 l2 u2 HNew
  dsimp only
  have hpn : ∀ w', (binOp .eql 24 (.pointer (some ⟨D, 0, none⟩)) (.pointer none)).run Tryd.prog w' = .ok (.bool false) w' := fun w' => by kernel_rfl
  go_wp2
  go_loopw [7, 8] (fun v7 v8 wr => ∃ i : Nat, v8 = .int .i64 (i : Int) ∧ i ≤ ls.length ∧ ∃ a7 c7 n, v7 = .slice a7 n c7 ∧ Hid (∃ s xs K, PJ w wr D s a7 c7 xs K ∧ List.length K = n)) (fun _ v8 _ => ls.length - (intOf v8).toNat)
  case atStart => exact ⟨0, rfl, by omega, none, 0, 0, rfl, Hid.of ⟨_, _, _, HJ2.out, rfl⟩⟩
  case round =>
    obtain ⟨i, rfl, hi, a7, c7, n, rfl, hR⟩ := hrel
    obtain ⟨s, xs, K, hJ, hn⟩ := hR.out
    have HJ := Hid.of hJ
    have HN := Hid.of hn
    have hn100 : n ≤ 100 := by have := hJ.kl; omega
    clear hR hJ HJ2 hpn hn
    by_cases hlt : i < ls.length ∧ n < 100
    · obtain ⟨hlt, hlt2⟩ := hlt
      have hltz : (i : Int) < (ls.length : Int) := by omega
      have hlt2z : (n : Int) < 100 := by omega
      obtain ⟨b, off, u, rfl, k1, hsb⟩ := HP.out.cells i hlt
      have k2 := HJ.out.up.cell k1
      have HSh := Hid.of (short_walk u ls[i] wr (hsb.up HJ.out.up) (HP.out.len _ (List.getElem_mem hlt)))
      obtain ⟨ds, hds⟩ : ∃ ds, ls[i].take 1048576 = ds := ⟨_, rfl⟩
      have hdl : ds.length ≤ 1048576 := by rw [← hds, List.length_take]; omega
      rw [hds] at HSh
      clear hds k1 hsb
      go_wp2_with fail
      refine HSh.out.mono ?_
      rintro e w3 ⟨v3, rfl, o3, u3⟩
      obtain ⟨a3, c3, rfl⟩ := row_len o3
      have HO3 := Hid.of o3
      have HU3 := Hid.of u3
      clear o3 u3 HSh
      dsimp only
      by_cases h0 : ds = []
      · have h0z : ((ds.length : Int) == 0) = true := by rw [h0]; rfl
        go_wp2
        go_roundw
        all_goals first
          | exact ⟨i + 1, by go_num, by omega, a7, c7, n, rfl, Hid.of ⟨s, xs, K, HJ.out.upTo HU3.out, HN.out⟩⟩
          | (simp [intOf]; omega)
      have h0z : ((ds.length : Int) == 0) = false := by
        rw [beq_eq_false_iff_ne]
        intro e
        exact h0 (List.eq_nil_of_length_eq_zero (by omega))
      have HH0 := Hid.of h0
      clear h0
      go_wp2_with fail
      refine (letters_walk n (by omega) w3).mono ?_
      rintro e w4 ⟨rfl, u4⟩
      have HU4 := Hid.of (HU3.out.trans u4)
      have HU34 := Hid.of u4
      clear u4
      dsimp only
      have HCr := Hid.of (Create_gen ⟨(ltr n).toArray⟩ w4 (HJ.out.ok.up HU4.out) (ltr_nm n (by omega)) HJ.out.st.1 (by have := HJ.out.st; omega) (by have := HJ.out.st; omega) (by have := HN.out; omega))
      go_wp2_with fail
      refine HCr.out.mono ?_
      rintro e w5 ⟨rfl, F, bp, b2, vC, vLo, a5⟩
      have HA5 := Hid.of a5
      have HO5 := Hid.of (show Ow w5 wr.heap.size (.slice a3 ds.length c3) ds from a5.2.2.own (ow_up HO3.out HU34.out) (fun g hg ho => by
        have h1 := HJ.out.ok.lt ho
        have h2 := (World.ownsRow.lt HO3.out g hg).1
        omega))
      have HCo := Hid.of (copied_walk (.slice a3 ds.length c3) ds w5 HO5.out.sb (by omega))
      clear a5 HCr
      dsimp only
      go_wp2_with fail
      refine HCo.out.mono ?_
      rintro e w6 ⟨v6, rfl, o6, u6⟩
      have HU6 := Hid.of u6
      have HO6 := Hid.of o6
      obtain ⟨s5, hs5⟩ : ∃ s5, crS (acS s) ⟨(ltr n).toArray⟩ F bp b2 vC vLo = s5 := ⟨_, rfl⟩
      have HS5 := Hid.of hs5
      have hw0 : wrF s5.room (usd s5.nf) (fnew F).nb.length 0 ds.length = 0 := by
        have h1 : s5.room = 1073741824 := by rw [← hs5]; exact HJ.out.st.2.2.1
        have h2 : usd s5.nf ≤ K.length * 1048576 := by
          rw [← hs5]
          show usd (drp s.nf (ltr n) ++ [(ltr n, fnew F)]) ≤ _
          rw [← HN.out, drp_no (HJ.out.pf.names (by have := HN.out; omega)), usd_append]
          exact HJ.out.pf.usd (fun d hd => (HJ.out.sz d hd).2)
        have h3 := HN.out
        unfold wrF gro
        rw [h1, if_neg (by omega), if_neg]
        rintro ⟨h4, h5⟩
        split at h5 <;> omega
      have HW0 := Hid.of hw0
      have HWr := Hid.of (Write_gen ⟨(ltr n).toArray⟩ (fnew F) 0 v6 ds w6 (show DOk w6 w.heap.size D (4 * K.length + 2) s5 by rw [← hs5]; exact HA5.out.1.up u6) (by
          rw [← hs5]
          exact List.mem_append_right _ (List.mem_singleton.2 rfl)) o6.sb (fun e => by
          have h1 := (World.ownsRow.lt o6 D e).1
          have h2 := lt_of_at HA5.out.1.disk
          omega) hdl (by rw [← hs5]; exact HJ.out.st.1) (by rw [← hs5]; show s.unt - 1 ≤ _; have := HJ.out.st; omega) (by rw [← hs5]; show s.unt - 1 ≠ 1; have := HJ.out.st; omega) (by have := HN.out; omega))
      obtain ⟨a6, c6, rfl⟩ := row_len o6
      rw [hw0] at HWr
      clear o6 u6 hs5 hw0 HCo
      dsimp only
      go_wp2_with fail
      refine HWr.out.mono ?_
      rintro e w7 ⟨rfl, s7, a7', hs7⟩
      have hq5 := HA5.out
      have hq7 := a7'
      have hq9 := hs7.2 HW0.out HH0.out
      rw [← HS5.out] at hq7 hq9
      rw [← HN.out] at hq5 hq7 hq9
      obtain ⟨m1, m2, m3, m4, m5, m6, m7⟩ := PJ.made (ds := ds) (HJ.out.upTo HU4.out) (by have := HN.out; omega) hq5 HU6.out hq7 hq9
      clear hq5 hq7 hq9
      have HM := Hid.of (And.intro m1 (And.intro m2 (And.intro m3 (And.intro m4 (And.intro m5 (And.intro m6 m7))))))
      have HO7 := Hid.of (show Ow w7 w.heap.size (.slice a3 ds.length c3) ds ∧ ∀ k, (Value.slice a3 ds.length c3).ownBlock = some k → ¬ own D s7 k from by
        have hlt : ∀ k, (Value.slice a3 ds.length c3).ownBlock = some k → ¬ own D s5 k := fun k hk ho => by
          have h1 := (World.ownsRow.lt HO3.out k hk)
          rw [← HS5.out] at ho
          rcases HA5.out.2.1 k ho with h2 | h2
          · have := HJ.out.ok.lt h2
            omega
          · have := HU34.out.size
            omega
        refine ⟨ow_base (a7'.2.2.own (ow_up HO5.out HU6.out) hlt) (HJ.out.up.size), fun k hk ho => ?_⟩
        rcases a7'.2.1 k ho with h2 | h2
        · exact hlt k hk h2
        · have := (World.ownsRow.lt (ow_up HO5.out HU6.out) k hk).2
          omega)
      clear m1 m2 m3 m4 m5 m6 m7 a7' hs7 HWr HA5 HO5 HO6 HW0
      dsimp only
      go_wp2_with (with_reducible show wpList _ _ _ ({ dst := _, op := Op.call { callee := Callee.builtin Builtin.append, args := _, argTypes := _ }, type := _, pos := _, after := _, guard := _ } :: _) _ _; refine Shut.out ?_)
      show wpList _ _ _ _ _ _
      refine wpList_appK (W := w) (w := w7) (T := 4 * (K.length + 1)) (s := s7) rfl _ _ rfl a7 c7 (.slice a3 ds.length c3) ds xs K rfl rfl HM.out.2.2.2.1 HN.out HO7.out.1 HO7.out.2 HM.out.1 HM.out.2.1 (by exact HV.out) (Nat.le_refl _) HM.out.2.1.size (by omega) ?_
      intro ax2 cx2 w8 r8 d8 u8
      have HJ8 := Hid.of (show PJ w w8 D s7 ax2 cx2 (xs ++ [.slice a3 ds.length c3]) (K ++ [ds]) from ⟨by rw [List.length_append]; exact d8, u8, HM.out.2.2.1, r8, by rw [List.length_append]; exact HM.out.2.2.2.2.1, HM.out.2.2.2.2.2.1, HM.out.2.2.2.2.2.2, (fun d hd => by
        rcases List.mem_append.1 hd with h1 | h1
        · exact HJ.out.sz d h1
        · obtain rfl := List.mem_singleton.1 h1
          exact ⟨HH0.out, hdl⟩), by rw [List.length_append, HN.out]; show n + 1 ≤ 100; omega⟩)
      clear r8 d8 u8 HM HO7
      simp only [Act.put, List.setIfInBounds_toArray, List.set_cons_zero, List.set_cons_succ]
      go_wp2
      go_roundw
      all_goals first
        | exact ⟨i + 1, by go_num, by omega, ax2, cx2, n + 1, rfl, Hid.of ⟨s7, _, _, HJ8.out, by rw [List.length_append, HN.out]; rfl⟩⟩
        | (simp [intOf]; omega)
    · by_cases hle : i < ls.length
      · have hltz : (i : Int) < (ls.length : Int) := by omega
        have hlt2z : ¬ (n : Int) < 100 := by omega
        clear hlt
        go_wp2_with fail
        refine (Pending_gen wr HJ.out.ok).mono ?_
        rintro e w3 ⟨rfl, u3⟩
        rw [HJ.out.pend, HN.out, show ((2 * n : Nat) : Int) = 2 * (n : Int) by omega]
        have HU3 := Hid.of u3
        clear u3
        dsimp only
        go_wp2_with fail
        refine (Acts_gen w3 (HJ.out.ok.up HU3.out)).mono ?_
        rintro e w4 ⟨rfl, h9⟩
        obtain rfl := h9.symm
        clear h9
        rw [HJ.out.st.2.2.2.2.2.2.1, HN.out, show ((2 * n : Nat) : Int) = 2 * (n : Int) by omega]
        dsimp only
        have HAf := Hid.of (after_gen w.heap.size D (4 * K.length) 1048576 s (.slice ac cs.length cc) cs w3 (HJ.out.ok.up HU3.out) (HC.out.up (HJ.out.up.trans HU3.out)) HJ.out.cf (by have := HJ.out.st; have := HN.out; omega) hcl (by have := HN.out; omega))
        go_wp2_with fail
        refine HAf.out.mono ?_
        rintro e w9 ⟨a9, fs, c9, gs, ws, rfl, o9, f9, k9, lf, e9⟩
        have HFo := Hid.of (HJ.out.found lf e9)
        have HFs := Hid.of o9.fsl
        have hU9 : Up w w9 := up_disk (HJ.out.up.trans HU3.out) HJ.out.lo (f9.weak (fun g hg => .inl hg))
        have HUw := Hid.of hU9
        have HC9 := Hid.of (HC.out.up hU9)
        have hfD : ∀ {B e m v q xs}, (∀ k, v.ownBlock = some k → ¬ own D s k) → w3.ownsRow B e m v q xs → w9.ownsRow B e m v q xs := fun hk h => f9.own h (fun g hg e => hk g hg (.inl e))
        have HK9 := Hid.of (show w9.ownsRow w.heap.size 29 1 (.slice a7 n c7) n xs ∧ ∀ i (h : i < K.length) (h' : i < xs.length), Ow w9 w.heap.size xs[i] K[i] from ⟨by
          have h1 := hfD HJ.out.kr.nr (ow_up HJ.out.kr.row HU3.out)
          rw [HN.out] at h1
          exact h1, fun i h h' => hfD (HJ.out.kr.ne _ (List.getElem_mem h')) (ow_up (HJ.out.kr.el i h h') HU3.out)⟩)
        have hcf := (HFs.out).cap
        clear o9 f9 k9 lf e9 HAf hU9 hfD
        dsimp only
        by_cases hc0 : 0 < cs.length
        · have hc0z : (0 : Int) < (cs.length : Int) := by omega
          obtain ⟨bc0, oc0, rfl, q4⟩ := si_cell HC9.out hc0
          rw [Nat.add_zero] at q4
          have hfl : (cs[0] % ((n : Int) + 1)).toNat = fs.length := by rw [HFo.out.1, cz_pos hc0, HN.out]
          have HFL := Hid.of hfl
          obtain ⟨x0, hx0⟩ : ∃ x0, cs[0] = x0 := ⟨_, rfl⟩
          rw [hx0] at q4 HFL
          clear hx0 hfl
          go_wp2_with fail
          refine (within_gen x0 n (by omega) _).mono ?_
          rintro e w4 ⟨rfl, h9⟩
          obtain rfl := h9.symm
          clear h9
          rw [HFL.out]
          clear HFL q4
          dsimp only
          go_wp2
          go_loopw [15] (fun v15 wr => ∃ j : Nat, v15 = .int .i64 (j : Int) ∧ j ≤ fs.length ∧ Hid (Up w9 wr)) (fun v15 _ => fs.length - (intOf v15).toNat)
          case atStart => exact ⟨0, rfl, by omega, Hid.of (Up.refl _)⟩
          case round =>
            obtain ⟨j, rfl, hj, hU⟩ := hrel
            have HU := Hid.of hU.out
            clear hU
            by_cases hjf : j < fs.length
            · have hjz : (j : Int) < (fs.length : Int) := by omega
              have hjk : j < K.length := by have := cz_le cs 0 K.length; have := HFo.out.1; omega
              have hjn : (j : Int) < (n : Int) := by have := HN.out; omega
              have hjn0 : j < n := by omega
              have hj100 : j ≤ 100 := by omega
              have hj0 : ¬ (j : Int) + 1 < 0 := by omega
              obtain ⟨b9, o9, rfl, q1, q2⟩ := HFs.out.cells j hjf
              obtain ⟨g7, rfl, hnc7, hx7, q3⟩ := own_get (j := j) HK9.out.1 hjn0
              have hnc7z : (n : Int) ≤ (c7 : Int) := by omega
              have hO := HK9.out.2 j hjk hx7
              have HF1 := Hid.of (HU.out.cell q1)
              have HF2 := Hid.of (HU.out.cell q2)
              have HKx := Hid.of (HU.out.cell q3)
              have HSb1 := Hid.of ((HFs.out.sb _ (List.getElem_mem hjf)).up HU.out)
              have HSb2 := Hid.of (Ow.sb (ow_up hO HU.out))
              have hnm := (HFo.out.2 j hjf hjk).1
              have hdat := (HFo.out.2 j hjf hjk).2
              have hkl := (HJ.out.sz _ (List.getElem_mem hjk)).2
              rw [hnm] at HF1
              rw [hdat] at HSb1
              obtain ⟨kj, hkj⟩ : ∃ kj, K[j] = kj := ⟨_, rfl⟩
              rw [hkj] at HSb1 HSb2 hkl hO
              obtain ⟨xj, hxj⟩ : ∃ xj, xs[j] = xj := ⟨_, rfl⟩
              rw [hxj] at HKx HSb2 hO
              obtain ⟨gv, hgv⟩ : ∃ gv, (fs[j]).v = gv := ⟨_, rfl⟩
              rw [hgv] at HF2 HSb1
              obtain ⟨ak, ck, rfl⟩ := row_len hO
              obtain ⟨lg, hlgd⟩ : ∃ lg, cz cs (j + 1) kj.length = lg := ⟨_, rfl⟩
              have hlg : lg ≤ kj.length := by rw [← hlgd]; exact cz_le _ _ _
              have hck : kj.length ≤ ck := by
                obtain ⟨_, _, e, h1, _⟩ := HSb2.out
                injection e with _ _ e3
                omega
              have hak : ak = none → ck = 0 := fun e => by
                obtain ⟨_, _, e1, _, _, h3, _⟩ := HSb2.out
                injection e1 with e2 _ e3
                rw [e3]
                exact (h3 (by rw [← e2]; exact e)).2
              replace HSb2 := Hid.of (HSb2.out.take lg hlg)
              rw [hlgd] at HSb1
              obtain ⟨kt, hkt⟩ : ∃ kt, kj.take lg = kt := ⟨_, rfl⟩
              rw [hkt] at HSb1 HSb2
              clear q1 q2 q3 hO hnm hdat hkj hxj hgv hkt
              by_cases hc1 : j + 1 < cs.length
              · have hc1z : (j : Int) + 1 < (cs.length : Int) := by omega
                obtain ⟨bc, oc, hbo, q4⟩ := si_cell HC9.out hc1
                simp only [Option.some.injEq, Addr.mk.injEq, and_true] at hbo
                obtain ⟨rfl, rfl⟩ := hbo
                have HKc := Hid.of (HU.out.cell q4)
                obtain ⟨xc, hxc⟩ : ∃ xc, cs[j + 1] = xc := ⟨_, rfl⟩
                rw [hxc] at HKc
                have hlgx : (xc % ((kj.length : Int) + 1)).toNat = lg := by rw [← hlgd, cz_pos hc1, hxc]
                have HLX := Hid.of hlgx
                clear q4 hxc hlgd hlgx
                go_wp2
                refine wp_region_held_drew (S := fun w2 => Up wr w2) (by kernel_rfl) (Up.refl _).drew (fun hS => ?_)
                refine wpAnyH_take (i := 0) (oi := { dst := some 111, op := Go.Op.move (Go.Operand.tmp 1), type := 42, pos := "outright.go:196", after := #[], guard := none }) (v := .slice (some ⟨bc0, oc0, none⟩) cs.length cc) rfl (by kernel_rfl) (by kernel_rfl) (by kernel_rfl) (fun _ _ _ h => h) (Or.inl ⟨by kernel_rfl, ?_⟩) hS ?_
                · intro w5 hSw
                  clear hSw hS
                  go_simp
                simp only [Act.put, List.setIfInBounds_toArray, List.set_cons_zero, List.set_cons_succ]
                refine wpAnyH_take (i := 1) (oi := { dst := some 112, op := Go.Op.move (Go.Operand.tmp 15), type := 3, pos := "outright.go:196", after := #[], guard := none }) (v := .int .i64 (j : Int)) rfl (by kernel_rfl) (by kernel_rfl) (by kernel_rfl) (fun _ _ _ h => h) (Or.inl ⟨by kernel_rfl, ?_⟩) hS ?_
                · intro w5 hSw
                  clear hSw hS
                  go_simp
                simp only [Act.put, List.setIfInBounds_toArray, List.set_cons_zero, List.set_cons_succ]
                refine wpAnyH_take (i := 2) (oi := { dst := some 113, op := Go.Op.binOp Go.BinOp.add 3 (Go.Operand.tmp 112) (Go.Operand.const (Go.Value.int Go.IntKind.i64 1)) 3, type := 3, pos := "outright.go:196", after := #[{ on := 1, ground := Go.Ground.data }], guard := none }) (v := .int .i64 ((j : Int) + 1)) rfl (by kernel_rfl) (by kernel_rfl) (by kernel_rfl) (fun _ _ _ h => h) (Or.inl ⟨by kernel_rfl, ?_⟩) hS ?_
                · intro w5 hSw
                  clear hSw hS
                  (go_simp; rw [IntKind.wrap_i64]; omega)
                simp only [Act.put, List.setIfInBounds_toArray, List.set_cons_zero, List.set_cons_succ]
                refine wpAnyH_take (i := 3) (oi := { dst := some 114, op := Go.Op.indexAddr 42 (Go.Operand.tmp 111) (Go.Operand.tmp 113), type := 0, pos := "outright.go:196", after := #[{ on := 0, ground := Go.Ground.data }, { on := 2, ground := Go.Ground.data }], guard := none }) (v := .pointer (some ⟨bc0, oc0 + (j + 1), none⟩)) rfl (by kernel_rfl) (by kernel_rfl) (by kernel_rfl) (fun _ _ _ h => h) (Or.inl ⟨by kernel_rfl, ?_⟩) hS ?_
                · intro w5 hSw
                  clear hSw hS
                  go_simp
                simp only [Act.put, List.setIfInBounds_toArray, List.set_cons_zero, List.set_cons_succ]
                refine wpAnyH_take (i := 4) (oi := { dst := some 115, op := Go.Op.load 3 (Go.Operand.tmp 114), type := 3, pos := "outright.go:196", after := #[{ on := 3, ground := Go.Ground.data }], guard := none }) (v := .int .i64 xc) rfl (by kernel_rfl) (by kernel_rfl) (by kernel_rfl) (fun _ _ _ h => h) (Or.inl ⟨by kernel_rfl, ?_⟩) hS ?_
                · intro w5 hSw
                  have h0 := hSw.cell HKc.out
                  clear hSw hS
                  go_simp
                simp only [Act.put, List.setIfInBounds_toArray, List.set_cons_zero, List.set_cons_succ]
                refine wpAnyH_take (i := 5) (oi := { dst := some 116, op := Go.Op.move (Go.Operand.tmp 7), type := 54, pos := "outright.go:196", after := #[], guard := none }) (v := .slice (some ⟨g7, 0, none⟩) n c7) rfl (by kernel_rfl) (by kernel_rfl) (by kernel_rfl) (fun _ _ _ h => h) (Or.inl ⟨by kernel_rfl, ?_⟩) hS ?_
                · intro w5 hSw
                  clear hSw hS
                  go_simp
                simp only [Act.put, List.setIfInBounds_toArray, List.set_cons_zero, List.set_cons_succ]
                refine wpAnyH_take (i := 6) (oi := { dst := some 117, op := Go.Op.move (Go.Operand.tmp 15), type := 3, pos := "outright.go:196", after := #[], guard := none }) (v := .int .i64 (j : Int)) rfl (by kernel_rfl) (by kernel_rfl) (by kernel_rfl) (fun _ _ _ h => h) (Or.inl ⟨by kernel_rfl, ?_⟩) hS ?_
                · intro w5 hSw
                  clear hSw hS
                  go_simp
                simp only [Act.put, List.setIfInBounds_toArray, List.set_cons_zero, List.set_cons_succ]
                refine wpAnyH_take (i := 7) (oi := { dst := some 118, op := Go.Op.indexAddr 54 (Go.Operand.tmp 116) (Go.Operand.tmp 117), type := 0, pos := "outright.go:196", after := #[{ on := 5, ground := Go.Ground.data }, { on := 6, ground := Go.Ground.data }], guard := none }) (v := .pointer (some ⟨g7, j, none⟩)) rfl (by kernel_rfl) (by kernel_rfl) (by kernel_rfl) (fun _ _ _ h => h) (Or.inl ⟨by kernel_rfl, ?_⟩) hS ?_
                · intro w5 hSw
                  clear hSw hS
                  go_simp
                simp only [Act.put, List.setIfInBounds_toArray, List.set_cons_zero, List.set_cons_succ]
                refine wpAnyH_take (i := 8) (oi := { dst := some 119, op := Go.Op.load 29 (Go.Operand.tmp 118), type := 29, pos := "outright.go:196", after := #[{ on := 7, ground := Go.Ground.data }], guard := none }) (v := .slice ak kj.length ck) rfl (by kernel_rfl) (by kernel_rfl) (by kernel_rfl) (fun _ _ _ h => h) (Or.inl ⟨by kernel_rfl, ?_⟩) hS ?_
                · intro w5 hSw
                  have h0 := hSw.cell HKx.out
                  clear hSw hS
                  go_simp
                simp only [Act.put, List.setIfInBounds_toArray, List.set_cons_zero, List.set_cons_succ]
                refine wpAnyH_take (i := 9) (oi := { dst := some 120, op := Go.Op.call { callee := Go.Callee.builtin Go.Builtin.len, args := #[Go.Operand.tmp 119], argTypes := #[29] }, type := 3, pos := "outright.go:196", after := #[{ on := 8, ground := Go.Ground.data }], guard := none }) (v := .int .i64 (kj.length : Int)) rfl (by kernel_rfl) (by kernel_rfl) (by kernel_rfl) (fun _ _ _ h => h) (Or.inl ⟨by kernel_rfl, ?_⟩) hS ?_
                · intro w5 hSw
                  clear hSw hS
                  go_simp
                simp only [Act.put, List.setIfInBounds_toArray, List.set_cons_zero, List.set_cons_succ]
                refine wpAnyH_ready (rs := [10]) (by kernel_rfl) (by simp) ?_
                refine AllReadyH.cons (o := { dst := some 121, op := Go.Op.call { callee := Go.Callee.value (Go.Operand.func 7), args := #[Go.Operand.tmp 115, Go.Operand.const (Go.Value.int Go.IntKind.i64 0), Go.Operand.tmp 120], argTypes := #[3, 3, 3] }, type := 3, pos := "outright.go:196", after := #[{ on := 4, ground := Go.Ground.data }, { on := 9, ground := Go.Ground.data }], guard := none }) rfl (fun K hK => ?_) AllReadyH.nil
                rw [if_pos (by kernel_rfl)]
                go_simp
                refine (within_gen xc kj.length (by omega) _).mono ?_
                rintro e w5 ⟨rfl, h9⟩
                obtain rfl := h9.symm
                clear h9
                dsimp only
                refine hK.out _ _ hS (fun hS => ?_)
                clear hK K
                refine wpAnyH_take (i := 11) (oi := { dst := some 16, op := Go.Op.assign (Go.Operand.tmp 121), type := 3, pos := "outright.go:196", after := #[{ on := 10, ground := Go.Ground.data }, { on := 10, ground := Go.Ground.chain }, { on := 0, ground := Go.Ground.phase }, { on := 1, ground := Go.Ground.phase }, { on := 2, ground := Go.Ground.phase }, { on := 3, ground := Go.Ground.phase }, { on := 4, ground := Go.Ground.phase }, { on := 5, ground := Go.Ground.phase }, { on := 6, ground := Go.Ground.phase }, { on := 7, ground := Go.Ground.phase }, { on := 8, ground := Go.Ground.phase }, { on := 9, ground := Go.Ground.phase }, { on := 10, ground := Go.Ground.phase }], guard := none }) (v := .int .i64 (((xc % ((kj.length : Int) + 1)).toNat : Nat) : Int)) rfl (by kernel_rfl) (by kernel_rfl) (by kernel_rfl) (fun _ _ _ h => h) (Or.inl ⟨by kernel_rfl, ?_⟩) hS ?_
                · intro w5 hSw
                  clear hSw hS
                  go_simp
                simp only [Act.put, List.setIfInBounds_toArray, List.set_cons_zero, List.set_cons_succ]
                have HSZ := Hid.of hS
                clear hS
                refine wpAnyH_done (by kernel_rfl) ?_ _
                rw [HLX.out]
                have HSW := HSZ
                clear HSZ HLX HKc
                go_wp2
                refine wp_region_held_drew (S := fun w2 => Up wr w2) (by kernel_rfl) HSW.out.drew (fun hS => ?_)
                refine wpAnyH_take (i := 0) (oi := { dst := some 122, op := Go.Op.move (Go.Operand.tmp 12), type := 52, pos := "outright.go:198", after := #[], guard := none }) (v := .slice (some ⟨b9, o9, none⟩) fs.length c9) rfl (by kernel_rfl) (by kernel_rfl) (by kernel_rfl) (fun _ _ _ h => h) (Or.inl ⟨by kernel_rfl, ?_⟩) hS ?_
                · intro w5 hSw
                  clear hSw hS
                  go_simp
                simp only [Act.put, List.setIfInBounds_toArray, List.set_cons_zero, List.set_cons_succ]
                refine wpAnyH_take (i := 1) (oi := { dst := some 123, op := Go.Op.move (Go.Operand.tmp 15), type := 3, pos := "outright.go:198", after := #[], guard := none }) (v := .int .i64 (j : Int)) rfl (by kernel_rfl) (by kernel_rfl) (by kernel_rfl) (fun _ _ _ h => h) (Or.inl ⟨by kernel_rfl, ?_⟩) hS ?_
                · intro w5 hSw
                  clear hSw hS
                  go_simp
                simp only [Act.put, List.setIfInBounds_toArray, List.set_cons_zero, List.set_cons_succ]
                refine wpAnyH_take (i := 2) (oi := { dst := some 124, op := Go.Op.indexAddr 52 (Go.Operand.tmp 122) (Go.Operand.tmp 123), type := 0, pos := "outright.go:198", after := #[{ on := 0, ground := Go.Ground.data }, { on := 1, ground := Go.Ground.data }], guard := none }) (v := .pointer (some ⟨b9, o9 + j * 2, none⟩)) rfl (by kernel_rfl) (by kernel_rfl) (by kernel_rfl) (fun _ _ _ h => h) (Or.inl ⟨by kernel_rfl, ?_⟩) hS ?_
                · intro w5 hSw
                  clear hSw hS
                  exact exec_idxFile j hjf rfl rfl rfl
                simp only [Act.put, List.setIfInBounds_toArray, List.set_cons_zero, List.set_cons_succ]
                refine wpAnyH_take (i := 3) (oi := { dst := some 125, op := Go.Op.fieldAddr 51 (Go.Operand.tmp 124) 0, type := 0, pos := "outright.go:198", after := #[{ on := 2, ground := Go.Ground.data }], guard := none }) (v := .pointer (some ⟨b9, o9 + j * 2, none⟩)) rfl (by kernel_rfl) (by kernel_rfl) (by kernel_rfl) (fun _ _ _ h => h) (Or.inl ⟨by kernel_rfl, ?_⟩) hS ?_
                · intro w5 hSw
                  clear hSw hS
                  go_simp
                simp only [Act.put, List.setIfInBounds_toArray, List.set_cons_zero, List.set_cons_succ]
                refine wpAnyH_take (i := 4) (oi := { dst := some 126, op := Go.Op.load 9 (Go.Operand.tmp 125), type := 9, pos := "outright.go:198", after := #[{ on := 3, ground := Go.Ground.data }], guard := none }) (v := .string ⟨(ltr j).toArray⟩) rfl (by kernel_rfl) (by kernel_rfl) (by kernel_rfl) (fun _ _ _ h => h) (Or.inl ⟨by kernel_rfl, ?_⟩) hS ?_
                · intro w5 hSw
                  have h0 := hSw.cell HF1.out
                  clear hSw hS
                  go_simp
                simp only [Act.put, List.setIfInBounds_toArray, List.set_cons_zero, List.set_cons_succ]
                refine wpAnyH_take (i := 5) (oi := { dst := some 127, op := Go.Op.move (Go.Operand.tmp 15), type := 3, pos := "outright.go:198", after := #[], guard := none }) (v := .int .i64 (j : Int)) rfl (by kernel_rfl) (by kernel_rfl) (by kernel_rfl) (fun _ _ _ h => h) (Or.inl ⟨by kernel_rfl, ?_⟩) hS ?_
                · intro w5 hSw
                  clear hSw hS
                  go_simp
                simp only [Act.put, List.setIfInBounds_toArray, List.set_cons_zero, List.set_cons_succ]
                refine wpAnyH_ready (rs := [6]) (by kernel_rfl) (by simp) ?_
                refine AllReadyH.cons (o := { dst := some 128, op := Go.Op.call { callee := Go.Callee.value (Go.Operand.func 16), args := #[Go.Operand.tmp 127], argTypes := #[3] }, type := 9, pos := "outright.go:198", after := #[{ on := 5, ground := Go.Ground.data }], guard := none }) rfl (fun K hK => ?_) AllReadyH.nil
                rw [if_pos (by kernel_rfl)]
                go_simp
                refine (letters_walk j (by omega) _).mono ?_
                rintro e w5 ⟨rfl, u5⟩
                dsimp only
                refine hK.out _ _ (hS.trans u5) (fun hS => ?_)
                clear hK K u5
                refine wpAnyH_take (i := 7) (oi := { dst := some 129, op := Go.Op.binOp Go.BinOp.neq 9 (Go.Operand.tmp 126) (Go.Operand.tmp 128) 9, type := 4, pos := "outright.go:198", after := #[{ on := 4, ground := Go.Ground.data }, { on := 6, ground := Go.Ground.data }], guard := none }) (v := .bool false) rfl (by kernel_rfl) (by kernel_rfl) (by kernel_rfl) (fun _ _ _ h => h) (Or.inl ⟨by kernel_rfl, ?_⟩) hS ?_
                · intro w5 hSw
                  clear hSw hS
                  go_simp
                simp only [Act.put, List.setIfInBounds_toArray, List.set_cons_zero, List.set_cons_succ]
                refine wpAnyH_take (i := 8) (oi := { dst := some 130, op := Go.Op.move (Go.Operand.tmp 129), type := 4, pos := "outright.go:198", after := #[{ on := 7, ground := Go.Ground.data }, { on := 6, ground := Go.Ground.chain }], guard := none }) (v := .bool false) rfl (by kernel_rfl) (by kernel_rfl) (by kernel_rfl) (fun _ _ _ h => h) (Or.inl ⟨by kernel_rfl, ?_⟩) hS ?_
                · intro w5 hSw
                  clear hSw hS
                  go_simp
                simp only [Act.put, List.setIfInBounds_toArray, List.set_cons_zero, List.set_cons_succ]
                refine wpAnyH_take (i := 9) (oi := { dst := some 131, op := Go.Op.move (Go.Operand.tmp 12), type := 52, pos := "outright.go:198", after := #[{ on := 8, ground := Go.Ground.guard }], guard := some (8, false) }) (v := .slice (some ⟨b9, o9, none⟩) fs.length c9) rfl (by kernel_rfl) (by kernel_rfl) (by kernel_rfl) (fun _ _ _ h => h) (Or.inl ⟨by kernel_rfl, ?_⟩) hS ?_
                · intro w5 hSw
                  clear hSw hS
                  go_simp
                simp only [Act.put, List.setIfInBounds_toArray, List.set_cons_zero, List.set_cons_succ]
                refine wpAnyH_take (i := 10) (oi := { dst := some 132, op := Go.Op.move (Go.Operand.tmp 15), type := 3, pos := "outright.go:198", after := #[{ on := 8, ground := Go.Ground.guard }], guard := some (8, false) }) (v := .int .i64 (j : Int)) rfl (by kernel_rfl) (by kernel_rfl) (by kernel_rfl) (fun _ _ _ h => h) (Or.inl ⟨by kernel_rfl, ?_⟩) hS ?_
                · intro w5 hSw
                  clear hSw hS
                  go_simp
                simp only [Act.put, List.setIfInBounds_toArray, List.set_cons_zero, List.set_cons_succ]
                refine wpAnyH_take (i := 11) (oi := { dst := some 133, op := Go.Op.indexAddr 52 (Go.Operand.tmp 131) (Go.Operand.tmp 132), type := 0, pos := "outright.go:198", after := #[{ on := 9, ground := Go.Ground.data }, { on := 10, ground := Go.Ground.data }, { on := 8, ground := Go.Ground.guard }], guard := some (8, false) }) (v := .pointer (some ⟨b9, o9 + j * 2, none⟩)) rfl (by kernel_rfl) (by kernel_rfl) (by kernel_rfl) (fun _ _ _ h => h) (Or.inl ⟨by kernel_rfl, ?_⟩) hS ?_
                · intro w5 hSw
                  clear hSw hS
                  exact exec_idxFile j hjf rfl rfl rfl
                simp only [Act.put, List.setIfInBounds_toArray, List.set_cons_zero, List.set_cons_succ]
                refine wpAnyH_take (i := 12) (oi := { dst := some 134, op := Go.Op.fieldAddr 51 (Go.Operand.tmp 133) 1, type := 0, pos := "outright.go:198", after := #[{ on := 11, ground := Go.Ground.data }, { on := 8, ground := Go.Ground.guard }], guard := some (8, false) }) (v := .pointer (some ⟨b9, o9 + j * 2 + 1, none⟩)) rfl (by kernel_rfl) (by kernel_rfl) (by kernel_rfl) (fun _ _ _ h => h) (Or.inl ⟨by kernel_rfl, ?_⟩) hS ?_
                · intro w5 hSw
                  clear hSw hS
                  go_simp
                simp only [Act.put, List.setIfInBounds_toArray, List.set_cons_zero, List.set_cons_succ]
                refine wpAnyH_take (i := 13) (oi := { dst := some 135, op := Go.Op.load 29 (Go.Operand.tmp 134), type := 29, pos := "outright.go:198", after := #[{ on := 12, ground := Go.Ground.data }, { on := 8, ground := Go.Ground.guard }], guard := some (8, false) }) (v := gv) rfl (by kernel_rfl) (by kernel_rfl) (by kernel_rfl) (fun _ _ _ h => h) (Or.inl ⟨by kernel_rfl, ?_⟩) hS ?_
                · intro w5 hSw
                  have h0 := hSw.cell HF2.out
                  clear hSw hS
                  go_simp
                simp only [Act.put, List.setIfInBounds_toArray, List.set_cons_zero, List.set_cons_succ]
                refine wpAnyH_take (i := 14) (oi := { dst := some 136, op := Go.Op.convert 29 9 (Go.Operand.tmp 135), type := 9, pos := "outright.go:198", after := #[{ on := 13, ground := Go.Ground.data }, { on := 8, ground := Go.Ground.guard }], guard := some (8, false) }) (v := .string ⟨kt.toArray⟩) rfl (by kernel_rfl) (by kernel_rfl) (by kernel_rfl) (fun _ _ _ h => h) (Or.inl ⟨by kernel_rfl, ?_⟩) hS ?_
                · intro w5 hSw
                  have h0 := conv_sb2 (HSb1.out.up hSw)
                  clear hSw hS
                  go_simp
                simp only [Act.put, List.setIfInBounds_toArray, List.set_cons_zero, List.set_cons_succ]
                refine wpAnyH_take (i := 15) (oi := { dst := some 137, op := Go.Op.move (Go.Operand.tmp 7), type := 54, pos := "outright.go:198", after := #[{ on := 8, ground := Go.Ground.guard }], guard := some (8, false) }) (v := .slice (some ⟨g7, 0, none⟩) n c7) rfl (by kernel_rfl) (by kernel_rfl) (by kernel_rfl) (fun _ _ _ h => h) (Or.inl ⟨by kernel_rfl, ?_⟩) hS ?_
                · intro w5 hSw
                  clear hSw hS
                  go_simp
                simp only [Act.put, List.setIfInBounds_toArray, List.set_cons_zero, List.set_cons_succ]
                refine wpAnyH_take (i := 16) (oi := { dst := some 138, op := Go.Op.move (Go.Operand.tmp 15), type := 3, pos := "outright.go:198", after := #[{ on := 8, ground := Go.Ground.guard }], guard := some (8, false) }) (v := .int .i64 (j : Int)) rfl (by kernel_rfl) (by kernel_rfl) (by kernel_rfl) (fun _ _ _ h => h) (Or.inl ⟨by kernel_rfl, ?_⟩) hS ?_
                · intro w5 hSw
                  clear hSw hS
                  go_simp
                simp only [Act.put, List.setIfInBounds_toArray, List.set_cons_zero, List.set_cons_succ]
                refine wpAnyH_take (i := 17) (oi := { dst := some 139, op := Go.Op.indexAddr 54 (Go.Operand.tmp 137) (Go.Operand.tmp 138), type := 0, pos := "outright.go:198", after := #[{ on := 15, ground := Go.Ground.data }, { on := 16, ground := Go.Ground.data }, { on := 8, ground := Go.Ground.guard }], guard := some (8, false) }) (v := .pointer (some ⟨g7, j, none⟩)) rfl (by kernel_rfl) (by kernel_rfl) (by kernel_rfl) (fun _ _ _ h => h) (Or.inl ⟨by kernel_rfl, ?_⟩) hS ?_
                · intro w5 hSw
                  clear hSw hS
                  go_simp
                simp only [Act.put, List.setIfInBounds_toArray, List.set_cons_zero, List.set_cons_succ]
                refine wpAnyH_take (i := 18) (oi := { dst := some 140, op := Go.Op.load 29 (Go.Operand.tmp 139), type := 29, pos := "outright.go:198", after := #[{ on := 17, ground := Go.Ground.data }, { on := 8, ground := Go.Ground.guard }], guard := some (8, false) }) (v := .slice ak kj.length ck) rfl (by kernel_rfl) (by kernel_rfl) (by kernel_rfl) (fun _ _ _ h => h) (Or.inl ⟨by kernel_rfl, ?_⟩) hS ?_
                · intro w5 hSw
                  have h0 := hSw.cell HKx.out
                  clear hSw hS
                  go_simp
                simp only [Act.put, List.setIfInBounds_toArray, List.set_cons_zero, List.set_cons_succ]
                refine wpAnyH_take (i := 19) (oi := { dst := some 141, op := Go.Op.move (Go.Operand.tmp 16), type := 3, pos := "outright.go:198", after := #[{ on := 8, ground := Go.Ground.guard }], guard := some (8, false) }) (v := .int .i64 (lg : Int)) rfl (by kernel_rfl) (by kernel_rfl) (by kernel_rfl) (fun _ _ _ h => h) (Or.inl ⟨by kernel_rfl, ?_⟩) hS ?_
                · intro w5 hSw
                  clear hSw hS
                  go_simp
                simp only [Act.put, List.setIfInBounds_toArray, List.set_cons_zero, List.set_cons_succ]
                refine wpAnyH_take (i := 20) (oi := { dst := some 142, op := Go.Op.slice 29 (Go.Operand.tmp 140) none (some (Go.Operand.tmp 141)) none, type := 29, pos := "outright.go:198", after := #[{ on := 18, ground := Go.Ground.data }, { on := 19, ground := Go.Ground.data }, { on := 8, ground := Go.Ground.guard }], guard := some (8, false) }) (v := .slice ak lg ck) rfl (by kernel_rfl) (by kernel_rfl) (by kernel_rfl) (fun _ _ _ h => h) (Or.inl ⟨by kernel_rfl, ?_⟩) hS ?_
                · intro w5 hSw
                  clear hSw hS
                  exact exec_cutSl hlg hck rfl rfl rfl hak
                simp only [Act.put, List.setIfInBounds_toArray, List.set_cons_zero, List.set_cons_succ]
                refine wpAnyH_take (i := 21) (oi := { dst := some 143, op := Go.Op.convert 29 9 (Go.Operand.tmp 142), type := 9, pos := "outright.go:198", after := #[{ on := 20, ground := Go.Ground.data }, { on := 8, ground := Go.Ground.guard }], guard := some (8, false) }) (v := .string ⟨kt.toArray⟩) rfl (by kernel_rfl) (by kernel_rfl) (by kernel_rfl) (fun _ _ _ h => h) (Or.inl ⟨by kernel_rfl, ?_⟩) hS ?_
                · intro w5 hSw
                  have h0 := conv_sb2 (HSb2.out.up hSw)
                  clear hSw hS
                  go_simp
                simp only [Act.put, List.setIfInBounds_toArray, List.set_cons_zero, List.set_cons_succ]
                refine wpAnyH_take (i := 22) (oi := { dst := some 144, op := Go.Op.binOp Go.BinOp.neq 9 (Go.Operand.tmp 136) (Go.Operand.tmp 143) 9, type := 4, pos := "outright.go:198", after := #[{ on := 14, ground := Go.Ground.data }, { on := 21, ground := Go.Ground.data }, { on := 8, ground := Go.Ground.guard }], guard := some (8, false) }) (v := .bool false) rfl (by kernel_rfl) (by kernel_rfl) (by kernel_rfl) (fun _ _ _ h => h) (Or.inl ⟨by kernel_rfl, ?_⟩) hS ?_
                · intro w5 hSw
                  clear hSw hS
                  go_simp
                simp only [Act.put, List.setIfInBounds_toArray, List.set_cons_zero, List.set_cons_succ]
                refine wpAnyH_take (i := 23) (oi := { dst := some 145, op := Go.Op.pick (Go.Operand.tmp 130) (Go.Operand.const (Go.Value.bool true)) (Go.Operand.tmp 144), type := 4, pos := "outright.go:198", after := #[{ on := 8, ground := Go.Ground.data }, { on := 22, ground := Go.Ground.data }], guard := none }) (v := .bool false) rfl (by kernel_rfl) (by kernel_rfl) (by kernel_rfl) (fun _ _ _ h => h) (Or.inl ⟨by kernel_rfl, ?_⟩) hS ?_
                · intro w5 hSw
                  clear hSw hS
                  go_simp
                simp only [Act.put, List.setIfInBounds_toArray, List.set_cons_zero, List.set_cons_succ]
                have HSY := Hid.of hS
                clear hS
                refine wpAnyH_done (by kernel_rfl) ?_ _
                go_wp2
                go_roundw
                all_goals first
                  | exact ⟨j + 1, by go_num, by omega, Hid.of (HU.out.trans HSY.out)⟩
                  | (simp [intOf]; omega)
              · have hc1z : ¬ (j : Int) + 1 < (cs.length : Int) := by omega
                have hlg0 : lg = 0 := by rw [← hlgd]; exact cz_out hc1
                subst hlg0
                have HSW := Hid.of (Up.refl wr)
                clear hlgd
                go_wp2
                refine wp_region_held_drew (S := fun w2 => Up wr w2) (by kernel_rfl) HSW.out.drew (fun hS => ?_)
                refine wpAnyH_take (i := 0) (oi := { dst := some 122, op := Go.Op.move (Go.Operand.tmp 12), type := 52, pos := "outright.go:198", after := #[], guard := none }) (v := .slice (some ⟨b9, o9, none⟩) fs.length c9) rfl (by kernel_rfl) (by kernel_rfl) (by kernel_rfl) (fun _ _ _ h => h) (Or.inl ⟨by kernel_rfl, ?_⟩) hS ?_
                · intro w5 hSw
                  clear hSw hS
                  go_simp
                simp only [Act.put, List.setIfInBounds_toArray, List.set_cons_zero, List.set_cons_succ]
                refine wpAnyH_take (i := 1) (oi := { dst := some 123, op := Go.Op.move (Go.Operand.tmp 15), type := 3, pos := "outright.go:198", after := #[], guard := none }) (v := .int .i64 (j : Int)) rfl (by kernel_rfl) (by kernel_rfl) (by kernel_rfl) (fun _ _ _ h => h) (Or.inl ⟨by kernel_rfl, ?_⟩) hS ?_
                · intro w5 hSw
                  clear hSw hS
                  go_simp
                simp only [Act.put, List.setIfInBounds_toArray, List.set_cons_zero, List.set_cons_succ]
                refine wpAnyH_take (i := 2) (oi := { dst := some 124, op := Go.Op.indexAddr 52 (Go.Operand.tmp 122) (Go.Operand.tmp 123), type := 0, pos := "outright.go:198", after := #[{ on := 0, ground := Go.Ground.data }, { on := 1, ground := Go.Ground.data }], guard := none }) (v := .pointer (some ⟨b9, o9 + j * 2, none⟩)) rfl (by kernel_rfl) (by kernel_rfl) (by kernel_rfl) (fun _ _ _ h => h) (Or.inl ⟨by kernel_rfl, ?_⟩) hS ?_
                · intro w5 hSw
                  clear hSw hS
                  exact exec_idxFile j hjf rfl rfl rfl
                simp only [Act.put, List.setIfInBounds_toArray, List.set_cons_zero, List.set_cons_succ]
                refine wpAnyH_take (i := 3) (oi := { dst := some 125, op := Go.Op.fieldAddr 51 (Go.Operand.tmp 124) 0, type := 0, pos := "outright.go:198", after := #[{ on := 2, ground := Go.Ground.data }], guard := none }) (v := .pointer (some ⟨b9, o9 + j * 2, none⟩)) rfl (by kernel_rfl) (by kernel_rfl) (by kernel_rfl) (fun _ _ _ h => h) (Or.inl ⟨by kernel_rfl, ?_⟩) hS ?_
                · intro w5 hSw
                  clear hSw hS
                  go_simp
                simp only [Act.put, List.setIfInBounds_toArray, List.set_cons_zero, List.set_cons_succ]
                refine wpAnyH_take (i := 4) (oi := { dst := some 126, op := Go.Op.load 9 (Go.Operand.tmp 125), type := 9, pos := "outright.go:198", after := #[{ on := 3, ground := Go.Ground.data }], guard := none }) (v := .string ⟨(ltr j).toArray⟩) rfl (by kernel_rfl) (by kernel_rfl) (by kernel_rfl) (fun _ _ _ h => h) (Or.inl ⟨by kernel_rfl, ?_⟩) hS ?_
                · intro w5 hSw
                  have h0 := hSw.cell HF1.out
                  clear hSw hS
                  go_simp
                simp only [Act.put, List.setIfInBounds_toArray, List.set_cons_zero, List.set_cons_succ]
                refine wpAnyH_take (i := 5) (oi := { dst := some 127, op := Go.Op.move (Go.Operand.tmp 15), type := 3, pos := "outright.go:198", after := #[], guard := none }) (v := .int .i64 (j : Int)) rfl (by kernel_rfl) (by kernel_rfl) (by kernel_rfl) (fun _ _ _ h => h) (Or.inl ⟨by kernel_rfl, ?_⟩) hS ?_
                · intro w5 hSw
                  clear hSw hS
                  go_simp
                simp only [Act.put, List.setIfInBounds_toArray, List.set_cons_zero, List.set_cons_succ]
                refine wpAnyH_ready (rs := [6]) (by kernel_rfl) (by simp) ?_
                refine AllReadyH.cons (o := { dst := some 128, op := Go.Op.call { callee := Go.Callee.value (Go.Operand.func 16), args := #[Go.Operand.tmp 127], argTypes := #[3] }, type := 9, pos := "outright.go:198", after := #[{ on := 5, ground := Go.Ground.data }], guard := none }) rfl (fun K hK => ?_) AllReadyH.nil
                rw [if_pos (by kernel_rfl)]
                go_simp
                refine (letters_walk j (by omega) _).mono ?_
                rintro e w5 ⟨rfl, u5⟩
                dsimp only
                refine hK.out _ _ (hS.trans u5) (fun hS => ?_)
                clear hK K u5
                refine wpAnyH_take (i := 7) (oi := { dst := some 129, op := Go.Op.binOp Go.BinOp.neq 9 (Go.Operand.tmp 126) (Go.Operand.tmp 128) 9, type := 4, pos := "outright.go:198", after := #[{ on := 4, ground := Go.Ground.data }, { on := 6, ground := Go.Ground.data }], guard := none }) (v := .bool false) rfl (by kernel_rfl) (by kernel_rfl) (by kernel_rfl) (fun _ _ _ h => h) (Or.inl ⟨by kernel_rfl, ?_⟩) hS ?_
                · intro w5 hSw
                  clear hSw hS
                  go_simp
                simp only [Act.put, List.setIfInBounds_toArray, List.set_cons_zero, List.set_cons_succ]
                refine wpAnyH_take (i := 8) (oi := { dst := some 130, op := Go.Op.move (Go.Operand.tmp 129), type := 4, pos := "outright.go:198", after := #[{ on := 7, ground := Go.Ground.data }, { on := 6, ground := Go.Ground.chain }], guard := none }) (v := .bool false) rfl (by kernel_rfl) (by kernel_rfl) (by kernel_rfl) (fun _ _ _ h => h) (Or.inl ⟨by kernel_rfl, ?_⟩) hS ?_
                · intro w5 hSw
                  clear hSw hS
                  go_simp
                simp only [Act.put, List.setIfInBounds_toArray, List.set_cons_zero, List.set_cons_succ]
                refine wpAnyH_take (i := 9) (oi := { dst := some 131, op := Go.Op.move (Go.Operand.tmp 12), type := 52, pos := "outright.go:198", after := #[{ on := 8, ground := Go.Ground.guard }], guard := some (8, false) }) (v := .slice (some ⟨b9, o9, none⟩) fs.length c9) rfl (by kernel_rfl) (by kernel_rfl) (by kernel_rfl) (fun _ _ _ h => h) (Or.inl ⟨by kernel_rfl, ?_⟩) hS ?_
                · intro w5 hSw
                  clear hSw hS
                  go_simp
                simp only [Act.put, List.setIfInBounds_toArray, List.set_cons_zero, List.set_cons_succ]
                refine wpAnyH_take (i := 10) (oi := { dst := some 132, op := Go.Op.move (Go.Operand.tmp 15), type := 3, pos := "outright.go:198", after := #[{ on := 8, ground := Go.Ground.guard }], guard := some (8, false) }) (v := .int .i64 (j : Int)) rfl (by kernel_rfl) (by kernel_rfl) (by kernel_rfl) (fun _ _ _ h => h) (Or.inl ⟨by kernel_rfl, ?_⟩) hS ?_
                · intro w5 hSw
                  clear hSw hS
                  go_simp
                simp only [Act.put, List.setIfInBounds_toArray, List.set_cons_zero, List.set_cons_succ]
                refine wpAnyH_take (i := 11) (oi := { dst := some 133, op := Go.Op.indexAddr 52 (Go.Operand.tmp 131) (Go.Operand.tmp 132), type := 0, pos := "outright.go:198", after := #[{ on := 9, ground := Go.Ground.data }, { on := 10, ground := Go.Ground.data }, { on := 8, ground := Go.Ground.guard }], guard := some (8, false) }) (v := .pointer (some ⟨b9, o9 + j * 2, none⟩)) rfl (by kernel_rfl) (by kernel_rfl) (by kernel_rfl) (fun _ _ _ h => h) (Or.inl ⟨by kernel_rfl, ?_⟩) hS ?_
                · intro w5 hSw
                  clear hSw hS
                  exact exec_idxFile j hjf rfl rfl rfl
                simp only [Act.put, List.setIfInBounds_toArray, List.set_cons_zero, List.set_cons_succ]
                refine wpAnyH_take (i := 12) (oi := { dst := some 134, op := Go.Op.fieldAddr 51 (Go.Operand.tmp 133) 1, type := 0, pos := "outright.go:198", after := #[{ on := 11, ground := Go.Ground.data }, { on := 8, ground := Go.Ground.guard }], guard := some (8, false) }) (v := .pointer (some ⟨b9, o9 + j * 2 + 1, none⟩)) rfl (by kernel_rfl) (by kernel_rfl) (by kernel_rfl) (fun _ _ _ h => h) (Or.inl ⟨by kernel_rfl, ?_⟩) hS ?_
                · intro w5 hSw
                  clear hSw hS
                  go_simp
                simp only [Act.put, List.setIfInBounds_toArray, List.set_cons_zero, List.set_cons_succ]
                refine wpAnyH_take (i := 13) (oi := { dst := some 135, op := Go.Op.load 29 (Go.Operand.tmp 134), type := 29, pos := "outright.go:198", after := #[{ on := 12, ground := Go.Ground.data }, { on := 8, ground := Go.Ground.guard }], guard := some (8, false) }) (v := gv) rfl (by kernel_rfl) (by kernel_rfl) (by kernel_rfl) (fun _ _ _ h => h) (Or.inl ⟨by kernel_rfl, ?_⟩) hS ?_
                · intro w5 hSw
                  have h0 := hSw.cell HF2.out
                  clear hSw hS
                  go_simp
                simp only [Act.put, List.setIfInBounds_toArray, List.set_cons_zero, List.set_cons_succ]
                refine wpAnyH_take (i := 14) (oi := { dst := some 136, op := Go.Op.convert 29 9 (Go.Operand.tmp 135), type := 9, pos := "outright.go:198", after := #[{ on := 13, ground := Go.Ground.data }, { on := 8, ground := Go.Ground.guard }], guard := some (8, false) }) (v := .string ⟨kt.toArray⟩) rfl (by kernel_rfl) (by kernel_rfl) (by kernel_rfl) (fun _ _ _ h => h) (Or.inl ⟨by kernel_rfl, ?_⟩) hS ?_
                · intro w5 hSw
                  have h0 := conv_sb2 (HSb1.out.up hSw)
                  clear hSw hS
                  go_simp
                simp only [Act.put, List.setIfInBounds_toArray, List.set_cons_zero, List.set_cons_succ]
                refine wpAnyH_take (i := 15) (oi := { dst := some 137, op := Go.Op.move (Go.Operand.tmp 7), type := 54, pos := "outright.go:198", after := #[{ on := 8, ground := Go.Ground.guard }], guard := some (8, false) }) (v := .slice (some ⟨g7, 0, none⟩) n c7) rfl (by kernel_rfl) (by kernel_rfl) (by kernel_rfl) (fun _ _ _ h => h) (Or.inl ⟨by kernel_rfl, ?_⟩) hS ?_
                · intro w5 hSw
                  clear hSw hS
                  go_simp
                simp only [Act.put, List.setIfInBounds_toArray, List.set_cons_zero, List.set_cons_succ]
                refine wpAnyH_take (i := 16) (oi := { dst := some 138, op := Go.Op.move (Go.Operand.tmp 15), type := 3, pos := "outright.go:198", after := #[{ on := 8, ground := Go.Ground.guard }], guard := some (8, false) }) (v := .int .i64 (j : Int)) rfl (by kernel_rfl) (by kernel_rfl) (by kernel_rfl) (fun _ _ _ h => h) (Or.inl ⟨by kernel_rfl, ?_⟩) hS ?_
                · intro w5 hSw
                  clear hSw hS
                  go_simp
                simp only [Act.put, List.setIfInBounds_toArray, List.set_cons_zero, List.set_cons_succ]
                refine wpAnyH_take (i := 17) (oi := { dst := some 139, op := Go.Op.indexAddr 54 (Go.Operand.tmp 137) (Go.Operand.tmp 138), type := 0, pos := "outright.go:198", after := #[{ on := 15, ground := Go.Ground.data }, { on := 16, ground := Go.Ground.data }, { on := 8, ground := Go.Ground.guard }], guard := some (8, false) }) (v := .pointer (some ⟨g7, j, none⟩)) rfl (by kernel_rfl) (by kernel_rfl) (by kernel_rfl) (fun _ _ _ h => h) (Or.inl ⟨by kernel_rfl, ?_⟩) hS ?_
                · intro w5 hSw
                  clear hSw hS
                  go_simp
                simp only [Act.put, List.setIfInBounds_toArray, List.set_cons_zero, List.set_cons_succ]
                refine wpAnyH_take (i := 18) (oi := { dst := some 140, op := Go.Op.load 29 (Go.Operand.tmp 139), type := 29, pos := "outright.go:198", after := #[{ on := 17, ground := Go.Ground.data }, { on := 8, ground := Go.Ground.guard }], guard := some (8, false) }) (v := .slice ak kj.length ck) rfl (by kernel_rfl) (by kernel_rfl) (by kernel_rfl) (fun _ _ _ h => h) (Or.inl ⟨by kernel_rfl, ?_⟩) hS ?_
                · intro w5 hSw
                  have h0 := hSw.cell HKx.out
                  clear hSw hS
                  go_simp
                simp only [Act.put, List.setIfInBounds_toArray, List.set_cons_zero, List.set_cons_succ]
                refine wpAnyH_take (i := 19) (oi := { dst := some 141, op := Go.Op.move (Go.Operand.tmp 16), type := 3, pos := "outright.go:198", after := #[{ on := 8, ground := Go.Ground.guard }], guard := some (8, false) }) (v := .int .i64 0) rfl (by kernel_rfl) (by kernel_rfl) (by kernel_rfl) (fun _ _ _ h => h) (Or.inl ⟨by kernel_rfl, ?_⟩) hS ?_
                · intro w5 hSw
                  clear hSw hS
                  go_simp
                simp only [Act.put, List.setIfInBounds_toArray, List.set_cons_zero, List.set_cons_succ]
                refine wpAnyH_take (i := 20) (oi := { dst := some 142, op := Go.Op.slice 29 (Go.Operand.tmp 140) none (some (Go.Operand.tmp 141)) none, type := 29, pos := "outright.go:198", after := #[{ on := 18, ground := Go.Ground.data }, { on := 19, ground := Go.Ground.data }, { on := 8, ground := Go.Ground.guard }], guard := some (8, false) }) (v := .slice ak 0 ck) rfl (by kernel_rfl) (by kernel_rfl) (by kernel_rfl) (fun _ _ _ h => h) (Or.inl ⟨by kernel_rfl, ?_⟩) hS ?_
                · intro w5 hSw
                  clear hSw hS
                  exact exec_cutSl hlg hck rfl rfl rfl hak
                simp only [Act.put, List.setIfInBounds_toArray, List.set_cons_zero, List.set_cons_succ]
                refine wpAnyH_take (i := 21) (oi := { dst := some 143, op := Go.Op.convert 29 9 (Go.Operand.tmp 142), type := 9, pos := "outright.go:198", after := #[{ on := 20, ground := Go.Ground.data }, { on := 8, ground := Go.Ground.guard }], guard := some (8, false) }) (v := .string ⟨kt.toArray⟩) rfl (by kernel_rfl) (by kernel_rfl) (by kernel_rfl) (fun _ _ _ h => h) (Or.inl ⟨by kernel_rfl, ?_⟩) hS ?_
                · intro w5 hSw
                  have h0 := conv_sb2 (HSb2.out.up hSw)
                  clear hSw hS
                  go_simp
                simp only [Act.put, List.setIfInBounds_toArray, List.set_cons_zero, List.set_cons_succ]
                refine wpAnyH_take (i := 22) (oi := { dst := some 144, op := Go.Op.binOp Go.BinOp.neq 9 (Go.Operand.tmp 136) (Go.Operand.tmp 143) 9, type := 4, pos := "outright.go:198", after := #[{ on := 14, ground := Go.Ground.data }, { on := 21, ground := Go.Ground.data }, { on := 8, ground := Go.Ground.guard }], guard := some (8, false) }) (v := .bool false) rfl (by kernel_rfl) (by kernel_rfl) (by kernel_rfl) (fun _ _ _ h => h) (Or.inl ⟨by kernel_rfl, ?_⟩) hS ?_
                · intro w5 hSw
                  clear hSw hS
                  go_simp
                simp only [Act.put, List.setIfInBounds_toArray, List.set_cons_zero, List.set_cons_succ]
                refine wpAnyH_take (i := 23) (oi := { dst := some 145, op := Go.Op.pick (Go.Operand.tmp 130) (Go.Operand.const (Go.Value.bool true)) (Go.Operand.tmp 144), type := 4, pos := "outright.go:198", after := #[{ on := 8, ground := Go.Ground.data }, { on := 22, ground := Go.Ground.data }], guard := none }) (v := .bool false) rfl (by kernel_rfl) (by kernel_rfl) (by kernel_rfl) (fun _ _ _ h => h) (Or.inl ⟨by kernel_rfl, ?_⟩) hS ?_
                · intro w5 hSw
                  clear hSw hS
                  go_simp
                simp only [Act.put, List.setIfInBounds_toArray, List.set_cons_zero, List.set_cons_succ]
                have HSY := Hid.of hS
                clear hS
                refine wpAnyH_done (by kernel_rfl) ?_ _
                go_wp2
                go_roundw
                all_goals first
                  | exact ⟨j + 1, by go_num, by omega, Hid.of (HU.out.trans HSY.out)⟩
                  | (simp [intOf]; omega)
            · have hjz : ¬ (j : Int) < (fs.length : Int) := by omega
              go_wp2
              go_ret
              exact ⟨rfl, HUw.out.trans HU.out⟩
        · have hc0z : ¬ (0 : Int) < (cs.length : Int) := by omega
          have hfl0 : fs.length = 0 := by rw [HFo.out.1, cz_out hc0]
          obtain rfl := List.eq_nil_of_length_eq_zero hfl0
          clear HFo HFs HK9 hfl0
          go_wp2
          go_loopw [15] (fun v15 wr => v15 = .int .i64 0 ∧ Hid (Up w9 wr)) (fun _ _ => 0)
          case atStart => exact ⟨rfl, Hid.of (Up.refl _)⟩
          case round =>
            obtain ⟨rfl, hU⟩ := hrel
            go_wp2
            go_ret
            exact ⟨rfl, HUw.out.trans hU.out⟩
      · have hltz : ¬ (i : Int) < (ls.length : Int) := by omega
        clear hlt
        go_wp2_with fail
        refine (Pending_gen wr HJ.out.ok).mono ?_
        rintro e w3 ⟨rfl, u3⟩
        rw [HJ.out.pend, HN.out, show ((2 * n : Nat) : Int) = 2 * (n : Int) by omega]
        have HU3 := Hid.of u3
        clear u3
        dsimp only
        go_wp2_with fail
        refine (Acts_gen w3 (HJ.out.ok.up HU3.out)).mono ?_
        rintro e w4 ⟨rfl, h9⟩
        obtain rfl := h9.symm
        clear h9
        rw [HJ.out.st.2.2.2.2.2.2.1, HN.out, show ((2 * n : Nat) : Int) = 2 * (n : Int) by omega]
        dsimp only
        have HAf := Hid.of (after_gen w.heap.size D (4 * K.length) 1048576 s (.slice ac cs.length cc) cs w3 (HJ.out.ok.up HU3.out) (HC.out.up (HJ.out.up.trans HU3.out)) HJ.out.cf (by have := HJ.out.st; have := HN.out; omega) hcl (by have := HN.out; omega))
        go_wp2_with fail
        refine HAf.out.mono ?_
        rintro e w9 ⟨a9, fs, c9, gs, ws, rfl, o9, f9, k9, lf, e9⟩
        have HFo := Hid.of (HJ.out.found lf e9)
        have HFs := Hid.of o9.fsl
        have hU9 : Up w w9 := up_disk (HJ.out.up.trans HU3.out) HJ.out.lo (f9.weak (fun g hg => .inl hg))
        have HUw := Hid.of hU9
        have HC9 := Hid.of (HC.out.up hU9)
        have hfD : ∀ {B e m v q xs}, (∀ k, v.ownBlock = some k → ¬ own D s k) → w3.ownsRow B e m v q xs → w9.ownsRow B e m v q xs := fun hk h => f9.own h (fun g hg e => hk g hg (.inl e))
        have HK9 := Hid.of (show w9.ownsRow w.heap.size 29 1 (.slice a7 n c7) n xs ∧ ∀ i (h : i < K.length) (h' : i < xs.length), Ow w9 w.heap.size xs[i] K[i] from ⟨by
          have h1 := hfD HJ.out.kr.nr (ow_up HJ.out.kr.row HU3.out)
          rw [HN.out] at h1
          exact h1, fun i h h' => hfD (HJ.out.kr.ne _ (List.getElem_mem h')) (ow_up (HJ.out.kr.el i h h') HU3.out)⟩)
        have hcf := (HFs.out).cap
        clear o9 f9 k9 lf e9 HAf hU9 hfD
        dsimp only
        by_cases hc0 : 0 < cs.length
        · have hc0z : (0 : Int) < (cs.length : Int) := by omega
          obtain ⟨bc0, oc0, rfl, q4⟩ := si_cell HC9.out hc0
          rw [Nat.add_zero] at q4
          have hfl : (cs[0] % ((n : Int) + 1)).toNat = fs.length := by rw [HFo.out.1, cz_pos hc0, HN.out]
          have HFL := Hid.of hfl
          obtain ⟨x0, hx0⟩ : ∃ x0, cs[0] = x0 := ⟨_, rfl⟩
          rw [hx0] at q4 HFL
          clear hx0 hfl
          go_wp2_with fail
          refine (within_gen x0 n (by omega) _).mono ?_
          rintro e w4 ⟨rfl, h9⟩
          obtain rfl := h9.symm
          clear h9
          rw [HFL.out]
          clear HFL q4
          dsimp only
          go_wp2
          go_loopw [15] (fun v15 wr => ∃ j : Nat, v15 = .int .i64 (j : Int) ∧ j ≤ fs.length ∧ Hid (Up w9 wr)) (fun v15 _ => fs.length - (intOf v15).toNat)
          case atStart => exact ⟨0, rfl, by omega, Hid.of (Up.refl _)⟩
          case round =>
            obtain ⟨j, rfl, hj, hU⟩ := hrel
            have HU := Hid.of hU.out
            clear hU
            by_cases hjf : j < fs.length
            · have hjz : (j : Int) < (fs.length : Int) := by omega
              have hjk : j < K.length := by have := cz_le cs 0 K.length; have := HFo.out.1; omega
              have hjn : (j : Int) < (n : Int) := by have := HN.out; omega
              have hjn0 : j < n := by omega
              have hj100 : j ≤ 100 := by omega
              have hj0 : ¬ (j : Int) + 1 < 0 := by omega
              obtain ⟨b9, o9, rfl, q1, q2⟩ := HFs.out.cells j hjf
              obtain ⟨g7, rfl, hnc7, hx7, q3⟩ := own_get (j := j) HK9.out.1 hjn0
              have hnc7z : (n : Int) ≤ (c7 : Int) := by omega
              have hO := HK9.out.2 j hjk hx7
              have HF1 := Hid.of (HU.out.cell q1)
              have HF2 := Hid.of (HU.out.cell q2)
              have HKx := Hid.of (HU.out.cell q3)
              have HSb1 := Hid.of ((HFs.out.sb _ (List.getElem_mem hjf)).up HU.out)
              have HSb2 := Hid.of (Ow.sb (ow_up hO HU.out))
              have hnm := (HFo.out.2 j hjf hjk).1
              have hdat := (HFo.out.2 j hjf hjk).2
              have hkl := (HJ.out.sz _ (List.getElem_mem hjk)).2
              rw [hnm] at HF1
              rw [hdat] at HSb1
              obtain ⟨kj, hkj⟩ : ∃ kj, K[j] = kj := ⟨_, rfl⟩
              rw [hkj] at HSb1 HSb2 hkl hO
              obtain ⟨xj, hxj⟩ : ∃ xj, xs[j] = xj := ⟨_, rfl⟩
              rw [hxj] at HKx HSb2 hO
              obtain ⟨gv, hgv⟩ : ∃ gv, (fs[j]).v = gv := ⟨_, rfl⟩
              rw [hgv] at HF2 HSb1
              obtain ⟨ak, ck, rfl⟩ := row_len hO
              obtain ⟨lg, hlgd⟩ : ∃ lg, cz cs (j + 1) kj.length = lg := ⟨_, rfl⟩
              have hlg : lg ≤ kj.length := by rw [← hlgd]; exact cz_le _ _ _
              have hck : kj.length ≤ ck := by
                obtain ⟨_, _, e, h1, _⟩ := HSb2.out
                injection e with _ _ e3
                omega
              have hak : ak = none → ck = 0 := fun e => by
                obtain ⟨_, _, e1, _, _, h3, _⟩ := HSb2.out
                injection e1 with e2 _ e3
                rw [e3]
                exact (h3 (by rw [← e2]; exact e)).2
              replace HSb2 := Hid.of (HSb2.out.take lg hlg)
              rw [hlgd] at HSb1
              obtain ⟨kt, hkt⟩ : ∃ kt, kj.take lg = kt := ⟨_, rfl⟩
              rw [hkt] at HSb1 HSb2
              clear q1 q2 q3 hO hnm hdat hkj hxj hgv hkt
              by_cases hc1 : j + 1 < cs.length
              · have hc1z : (j : Int) + 1 < (cs.length : Int) := by omega
                obtain ⟨bc, oc, hbo, q4⟩ := si_cell HC9.out hc1
                simp only [Option.some.injEq, Addr.mk.injEq, and_true] at hbo
                obtain ⟨rfl, rfl⟩ := hbo
                have HKc := Hid.of (HU.out.cell q4)
                obtain ⟨xc, hxc⟩ : ∃ xc, cs[j + 1] = xc := ⟨_, rfl⟩
                rw [hxc] at HKc
                have hlgx : (xc % ((kj.length : Int) + 1)).toNat = lg := by rw [← hlgd, cz_pos hc1, hxc]
                have HLX := Hid.of hlgx
                clear q4 hxc hlgd hlgx
                go_wp2
                refine wp_region_held_drew (S := fun w2 => Up wr w2) (by kernel_rfl) (Up.refl _).drew (fun hS => ?_)
                refine wpAnyH_take (i := 0) (oi := { dst := some 111, op := Go.Op.move (Go.Operand.tmp 1), type := 42, pos := "outright.go:196", after := #[], guard := none }) (v := .slice (some ⟨bc0, oc0, none⟩) cs.length cc) rfl (by kernel_rfl) (by kernel_rfl) (by kernel_rfl) (fun _ _ _ h => h) (Or.inl ⟨by kernel_rfl, ?_⟩) hS ?_
                · intro w5 hSw
                  clear hSw hS
                  go_simp
                simp only [Act.put, List.setIfInBounds_toArray, List.set_cons_zero, List.set_cons_succ]
                refine wpAnyH_take (i := 1) (oi := { dst := some 112, op := Go.Op.move (Go.Operand.tmp 15), type := 3, pos := "outright.go:196", after := #[], guard := none }) (v := .int .i64 (j : Int)) rfl (by kernel_rfl) (by kernel_rfl) (by kernel_rfl) (fun _ _ _ h => h) (Or.inl ⟨by kernel_rfl, ?_⟩) hS ?_
                · intro w5 hSw
                  clear hSw hS
                  go_simp
                simp only [Act.put, List.setIfInBounds_toArray, List.set_cons_zero, List.set_cons_succ]
                refine wpAnyH_take (i := 2) (oi := { dst := some 113, op := Go.Op.binOp Go.BinOp.add 3 (Go.Operand.tmp 112) (Go.Operand.const (Go.Value.int Go.IntKind.i64 1)) 3, type := 3, pos := "outright.go:196", after := #[{ on := 1, ground := Go.Ground.data }], guard := none }) (v := .int .i64 ((j : Int) + 1)) rfl (by kernel_rfl) (by kernel_rfl) (by kernel_rfl) (fun _ _ _ h => h) (Or.inl ⟨by kernel_rfl, ?_⟩) hS ?_
                · intro w5 hSw
                  clear hSw hS
                  (go_simp; rw [IntKind.wrap_i64]; omega)
                simp only [Act.put, List.setIfInBounds_toArray, List.set_cons_zero, List.set_cons_succ]
                refine wpAnyH_take (i := 3) (oi := { dst := some 114, op := Go.Op.indexAddr 42 (Go.Operand.tmp 111) (Go.Operand.tmp 113), type := 0, pos := "outright.go:196", after := #[{ on := 0, ground := Go.Ground.data }, { on := 2, ground := Go.Ground.data }], guard := none }) (v := .pointer (some ⟨bc0, oc0 + (j + 1), none⟩)) rfl (by kernel_rfl) (by kernel_rfl) (by kernel_rfl) (fun _ _ _ h => h) (Or.inl ⟨by kernel_rfl, ?_⟩) hS ?_
                · intro w5 hSw
                  clear hSw hS
                  go_simp
                simp only [Act.put, List.setIfInBounds_toArray, List.set_cons_zero, List.set_cons_succ]
                refine wpAnyH_take (i := 4) (oi := { dst := some 115, op := Go.Op.load 3 (Go.Operand.tmp 114), type := 3, pos := "outright.go:196", after := #[{ on := 3, ground := Go.Ground.data }], guard := none }) (v := .int .i64 xc) rfl (by kernel_rfl) (by kernel_rfl) (by kernel_rfl) (fun _ _ _ h => h) (Or.inl ⟨by kernel_rfl, ?_⟩) hS ?_
                · intro w5 hSw
                  have h0 := hSw.cell HKc.out
                  clear hSw hS
                  go_simp
                simp only [Act.put, List.setIfInBounds_toArray, List.set_cons_zero, List.set_cons_succ]
                refine wpAnyH_take (i := 5) (oi := { dst := some 116, op := Go.Op.move (Go.Operand.tmp 7), type := 54, pos := "outright.go:196", after := #[], guard := none }) (v := .slice (some ⟨g7, 0, none⟩) n c7) rfl (by kernel_rfl) (by kernel_rfl) (by kernel_rfl) (fun _ _ _ h => h) (Or.inl ⟨by kernel_rfl, ?_⟩) hS ?_
                · intro w5 hSw
                  clear hSw hS
                  go_simp
                simp only [Act.put, List.setIfInBounds_toArray, List.set_cons_zero, List.set_cons_succ]
                refine wpAnyH_take (i := 6) (oi := { dst := some 117, op := Go.Op.move (Go.Operand.tmp 15), type := 3, pos := "outright.go:196", after := #[], guard := none }) (v := .int .i64 (j : Int)) rfl (by kernel_rfl) (by kernel_rfl) (by kernel_rfl) (fun _ _ _ h => h) (Or.inl ⟨by kernel_rfl, ?_⟩) hS ?_
                · intro w5 hSw
                  clear hSw hS
                  go_simp
                simp only [Act.put, List.setIfInBounds_toArray, List.set_cons_zero, List.set_cons_succ]
                refine wpAnyH_take (i := 7) (oi := { dst := some 118, op := Go.Op.indexAddr 54 (Go.Operand.tmp 116) (Go.Operand.tmp 117), type := 0, pos := "outright.go:196", after := #[{ on := 5, ground := Go.Ground.data }, { on := 6, ground := Go.Ground.data }], guard := none }) (v := .pointer (some ⟨g7, j, none⟩)) rfl (by kernel_rfl) (by kernel_rfl) (by kernel_rfl) (fun _ _ _ h => h) (Or.inl ⟨by kernel_rfl, ?_⟩) hS ?_
                · intro w5 hSw
                  clear hSw hS
                  go_simp
                simp only [Act.put, List.setIfInBounds_toArray, List.set_cons_zero, List.set_cons_succ]
                refine wpAnyH_take (i := 8) (oi := { dst := some 119, op := Go.Op.load 29 (Go.Operand.tmp 118), type := 29, pos := "outright.go:196", after := #[{ on := 7, ground := Go.Ground.data }], guard := none }) (v := .slice ak kj.length ck) rfl (by kernel_rfl) (by kernel_rfl) (by kernel_rfl) (fun _ _ _ h => h) (Or.inl ⟨by kernel_rfl, ?_⟩) hS ?_
                · intro w5 hSw
                  have h0 := hSw.cell HKx.out
                  clear hSw hS
                  go_simp
                simp only [Act.put, List.setIfInBounds_toArray, List.set_cons_zero, List.set_cons_succ]
                refine wpAnyH_take (i := 9) (oi := { dst := some 120, op := Go.Op.call { callee := Go.Callee.builtin Go.Builtin.len, args := #[Go.Operand.tmp 119], argTypes := #[29] }, type := 3, pos := "outright.go:196", after := #[{ on := 8, ground := Go.Ground.data }], guard := none }) (v := .int .i64 (kj.length : Int)) rfl (by kernel_rfl) (by kernel_rfl) (by kernel_rfl) (fun _ _ _ h => h) (Or.inl ⟨by kernel_rfl, ?_⟩) hS ?_
                · intro w5 hSw
                  clear hSw hS
                  go_simp
                simp only [Act.put, List.setIfInBounds_toArray, List.set_cons_zero, List.set_cons_succ]
                refine wpAnyH_ready (rs := [10]) (by kernel_rfl) (by simp) ?_
                refine AllReadyH.cons (o := { dst := some 121, op := Go.Op.call { callee := Go.Callee.value (Go.Operand.func 7), args := #[Go.Operand.tmp 115, Go.Operand.const (Go.Value.int Go.IntKind.i64 0), Go.Operand.tmp 120], argTypes := #[3, 3, 3] }, type := 3, pos := "outright.go:196", after := #[{ on := 4, ground := Go.Ground.data }, { on := 9, ground := Go.Ground.data }], guard := none }) rfl (fun K hK => ?_) AllReadyH.nil
                rw [if_pos (by kernel_rfl)]
                go_simp
                refine (within_gen xc kj.length (by omega) _).mono ?_
                rintro e w5 ⟨rfl, h9⟩
                obtain rfl := h9.symm
                clear h9
                dsimp only
                refine hK.out _ _ hS (fun hS => ?_)
                clear hK K
                refine wpAnyH_take (i := 11) (oi := { dst := some 16, op := Go.Op.assign (Go.Operand.tmp 121), type := 3, pos := "outright.go:196", after := #[{ on := 10, ground := Go.Ground.data }, { on := 10, ground := Go.Ground.chain }, { on := 0, ground := Go.Ground.phase }, { on := 1, ground := Go.Ground.phase }, { on := 2, ground := Go.Ground.phase }, { on := 3, ground := Go.Ground.phase }, { on := 4, ground := Go.Ground.phase }, { on := 5, ground := Go.Ground.phase }, { on := 6, ground := Go.Ground.phase }, { on := 7, ground := Go.Ground.phase }, { on := 8, ground := Go.Ground.phase }, { on := 9, ground := Go.Ground.phase }, { on := 10, ground := Go.Ground.phase }], guard := none }) (v := .int .i64 (((xc % ((kj.length : Int) + 1)).toNat : Nat) : Int)) rfl (by kernel_rfl) (by kernel_rfl) (by kernel_rfl) (fun _ _ _ h => h) (Or.inl ⟨by kernel_rfl, ?_⟩) hS ?_
                · intro w5 hSw
                  clear hSw hS
                  go_simp
                simp only [Act.put, List.setIfInBounds_toArray, List.set_cons_zero, List.set_cons_succ]
                have HSZ := Hid.of hS
                clear hS
                refine wpAnyH_done (by kernel_rfl) ?_ _
                rw [HLX.out]
                have HSW := HSZ
                clear HSZ HLX HKc
                go_wp2
                refine wp_region_held_drew (S := fun w2 => Up wr w2) (by kernel_rfl) HSW.out.drew (fun hS => ?_)
                refine wpAnyH_take (i := 0) (oi := { dst := some 122, op := Go.Op.move (Go.Operand.tmp 12), type := 52, pos := "outright.go:198", after := #[], guard := none }) (v := .slice (some ⟨b9, o9, none⟩) fs.length c9) rfl (by kernel_rfl) (by kernel_rfl) (by kernel_rfl) (fun _ _ _ h => h) (Or.inl ⟨by kernel_rfl, ?_⟩) hS ?_
                · intro w5 hSw
                  clear hSw hS
                  go_simp
                simp only [Act.put, List.setIfInBounds_toArray, List.set_cons_zero, List.set_cons_succ]
                refine wpAnyH_take (i := 1) (oi := { dst := some 123, op := Go.Op.move (Go.Operand.tmp 15), type := 3, pos := "outright.go:198", after := #[], guard := none }) (v := .int .i64 (j : Int)) rfl (by kernel_rfl) (by kernel_rfl) (by kernel_rfl) (fun _ _ _ h => h) (Or.inl ⟨by kernel_rfl, ?_⟩) hS ?_
                · intro w5 hSw
                  clear hSw hS
                  go_simp
                simp only [Act.put, List.setIfInBounds_toArray, List.set_cons_zero, List.set_cons_succ]
                refine wpAnyH_take (i := 2) (oi := { dst := some 124, op := Go.Op.indexAddr 52 (Go.Operand.tmp 122) (Go.Operand.tmp 123), type := 0, pos := "outright.go:198", after := #[{ on := 0, ground := Go.Ground.data }, { on := 1, ground := Go.Ground.data }], guard := none }) (v := .pointer (some ⟨b9, o9 + j * 2, none⟩)) rfl (by kernel_rfl) (by kernel_rfl) (by kernel_rfl) (fun _ _ _ h => h) (Or.inl ⟨by kernel_rfl, ?_⟩) hS ?_
                · intro w5 hSw
                  clear hSw hS
                  exact exec_idxFile j hjf rfl rfl rfl
                simp only [Act.put, List.setIfInBounds_toArray, List.set_cons_zero, List.set_cons_succ]
                refine wpAnyH_take (i := 3) (oi := { dst := some 125, op := Go.Op.fieldAddr 51 (Go.Operand.tmp 124) 0, type := 0, pos := "outright.go:198", after := #[{ on := 2, ground := Go.Ground.data }], guard := none }) (v := .pointer (some ⟨b9, o9 + j * 2, none⟩)) rfl (by kernel_rfl) (by kernel_rfl) (by kernel_rfl) (fun _ _ _ h => h) (Or.inl ⟨by kernel_rfl, ?_⟩) hS ?_
                · intro w5 hSw
                  clear hSw hS
                  go_simp
                simp only [Act.put, List.setIfInBounds_toArray, List.set_cons_zero, List.set_cons_succ]
                refine wpAnyH_take (i := 4) (oi := { dst := some 126, op := Go.Op.load 9 (Go.Operand.tmp 125), type := 9, pos := "outright.go:198", after := #[{ on := 3, ground := Go.Ground.data }], guard := none }) (v := .string ⟨(ltr j).toArray⟩) rfl (by kernel_rfl) (by kernel_rfl) (by kernel_rfl) (fun _ _ _ h => h) (Or.inl ⟨by kernel_rfl, ?_⟩) hS ?_
                · intro w5 hSw
                  have h0 := hSw.cell HF1.out
                  clear hSw hS
                  go_simp
                simp only [Act.put, List.setIfInBounds_toArray, List.set_cons_zero, List.set_cons_succ]
                refine wpAnyH_take (i := 5) (oi := { dst := some 127, op := Go.Op.move (Go.Operand.tmp 15), type := 3, pos := "outright.go:198", after := #[], guard := none }) (v := .int .i64 (j : Int)) rfl (by kernel_rfl) (by kernel_rfl) (by kernel_rfl) (fun _ _ _ h => h) (Or.inl ⟨by kernel_rfl, ?_⟩) hS ?_
                · intro w5 hSw
                  clear hSw hS
                  go_simp
                simp only [Act.put, List.setIfInBounds_toArray, List.set_cons_zero, List.set_cons_succ]
                refine wpAnyH_ready (rs := [6]) (by kernel_rfl) (by simp) ?_
                refine AllReadyH.cons (o := { dst := some 128, op := Go.Op.call { callee := Go.Callee.value (Go.Operand.func 16), args := #[Go.Operand.tmp 127], argTypes := #[3] }, type := 9, pos := "outright.go:198", after := #[{ on := 5, ground := Go.Ground.data }], guard := none }) rfl (fun K hK => ?_) AllReadyH.nil
                rw [if_pos (by kernel_rfl)]
                go_simp
                refine (letters_walk j (by omega) _).mono ?_
                rintro e w5 ⟨rfl, u5⟩
                dsimp only
                refine hK.out _ _ (hS.trans u5) (fun hS => ?_)
                clear hK K u5
                refine wpAnyH_take (i := 7) (oi := { dst := some 129, op := Go.Op.binOp Go.BinOp.neq 9 (Go.Operand.tmp 126) (Go.Operand.tmp 128) 9, type := 4, pos := "outright.go:198", after := #[{ on := 4, ground := Go.Ground.data }, { on := 6, ground := Go.Ground.data }], guard := none }) (v := .bool false) rfl (by kernel_rfl) (by kernel_rfl) (by kernel_rfl) (fun _ _ _ h => h) (Or.inl ⟨by kernel_rfl, ?_⟩) hS ?_
                · intro w5 hSw
                  clear hSw hS
                  go_simp
                simp only [Act.put, List.setIfInBounds_toArray, List.set_cons_zero, List.set_cons_succ]
                refine wpAnyH_take (i := 8) (oi := { dst := some 130, op := Go.Op.move (Go.Operand.tmp 129), type := 4, pos := "outright.go:198", after := #[{ on := 7, ground := Go.Ground.data }, { on := 6, ground := Go.Ground.chain }], guard := none }) (v := .bool false) rfl (by kernel_rfl) (by kernel_rfl) (by kernel_rfl) (fun _ _ _ h => h) (Or.inl ⟨by kernel_rfl, ?_⟩) hS ?_
                · intro w5 hSw
                  clear hSw hS
                  go_simp
                simp only [Act.put, List.setIfInBounds_toArray, List.set_cons_zero, List.set_cons_succ]
                refine wpAnyH_take (i := 9) (oi := { dst := some 131, op := Go.Op.move (Go.Operand.tmp 12), type := 52, pos := "outright.go:198", after := #[{ on := 8, ground := Go.Ground.guard }], guard := some (8, false) }) (v := .slice (some ⟨b9, o9, none⟩) fs.length c9) rfl (by kernel_rfl) (by kernel_rfl) (by kernel_rfl) (fun _ _ _ h => h) (Or.inl ⟨by kernel_rfl, ?_⟩) hS ?_
                · intro w5 hSw
                  clear hSw hS
                  go_simp
                simp only [Act.put, List.setIfInBounds_toArray, List.set_cons_zero, List.set_cons_succ]
                refine wpAnyH_take (i := 10) (oi := { dst := some 132, op := Go.Op.move (Go.Operand.tmp 15), type := 3, pos := "outright.go:198", after := #[{ on := 8, ground := Go.Ground.guard }], guard := some (8, false) }) (v := .int .i64 (j : Int)) rfl (by kernel_rfl) (by kernel_rfl) (by kernel_rfl) (fun _ _ _ h => h) (Or.inl ⟨by kernel_rfl, ?_⟩) hS ?_
                · intro w5 hSw
                  clear hSw hS
                  go_simp
                simp only [Act.put, List.setIfInBounds_toArray, List.set_cons_zero, List.set_cons_succ]
                refine wpAnyH_take (i := 11) (oi := { dst := some 133, op := Go.Op.indexAddr 52 (Go.Operand.tmp 131) (Go.Operand.tmp 132), type := 0, pos := "outright.go:198", after := #[{ on := 9, ground := Go.Ground.data }, { on := 10, ground := Go.Ground.data }, { on := 8, ground := Go.Ground.guard }], guard := some (8, false) }) (v := .pointer (some ⟨b9, o9 + j * 2, none⟩)) rfl (by kernel_rfl) (by kernel_rfl) (by kernel_rfl) (fun _ _ _ h => h) (Or.inl ⟨by kernel_rfl, ?_⟩) hS ?_
                · intro w5 hSw
                  clear hSw hS
                  exact exec_idxFile j hjf rfl rfl rfl
                simp only [Act.put, List.setIfInBounds_toArray, List.set_cons_zero, List.set_cons_succ]
                refine wpAnyH_take (i := 12) (oi := { dst := some 134, op := Go.Op.fieldAddr 51 (Go.Operand.tmp 133) 1, type := 0, pos := "outright.go:198", after := #[{ on := 11, ground := Go.Ground.data }, { on := 8, ground := Go.Ground.guard }], guard := some (8, false) }) (v := .pointer (some ⟨b9, o9 + j * 2 + 1, none⟩)) rfl (by kernel_rfl) (by kernel_rfl) (by kernel_rfl) (fun _ _ _ h => h) (Or.inl ⟨by kernel_rfl, ?_⟩) hS ?_
                · intro w5 hSw
                  clear hSw hS
                  go_simp
                simp only [Act.put, List.setIfInBounds_toArray, List.set_cons_zero, List.set_cons_succ]
                refine wpAnyH_take (i := 13) (oi := { dst := some 135, op := Go.Op.load 29 (Go.Operand.tmp 134), type := 29, pos := "outright.go:198", after := #[{ on := 12, ground := Go.Ground.data }, { on := 8, ground := Go.Ground.guard }], guard := some (8, false) }) (v := gv) rfl (by kernel_rfl) (by kernel_rfl) (by kernel_rfl) (fun _ _ _ h => h) (Or.inl ⟨by kernel_rfl, ?_⟩) hS ?_
                · intro w5 hSw
                  have h0 := hSw.cell HF2.out
                  clear hSw hS
                  go_simp
                simp only [Act.put, List.setIfInBounds_toArray, List.set_cons_zero, List.set_cons_succ]
                refine wpAnyH_take (i := 14) (oi := { dst := some 136, op := Go.Op.convert 29 9 (Go.Operand.tmp 135), type := 9, pos := "outright.go:198", after := #[{ on := 13, ground := Go.Ground.data }, { on := 8, ground := Go.Ground.guard }], guard := some (8, false) }) (v := .string ⟨kt.toArray⟩) rfl (by kernel_rfl) (by kernel_rfl) (by kernel_rfl) (fun _ _ _ h => h) (Or.inl ⟨by kernel_rfl, ?_⟩) hS ?_
                · intro w5 hSw
                  have h0 := conv_sb2 (HSb1.out.up hSw)
                  clear hSw hS
                  go_simp
                simp only [Act.put, List.setIfInBounds_toArray, List.set_cons_zero, List.set_cons_succ]
                refine wpAnyH_take (i := 15) (oi := { dst := some 137, op := Go.Op.move (Go.Operand.tmp 7), type := 54, pos := "outright.go:198", after := #[{ on := 8, ground := Go.Ground.guard }], guard := some (8, false) }) (v := .slice (some ⟨g7, 0, none⟩) n c7) rfl (by kernel_rfl) (by kernel_rfl) (by kernel_rfl) (fun _ _ _ h => h) (Or.inl ⟨by kernel_rfl, ?_⟩) hS ?_
                · intro w5 hSw
                  clear hSw hS
                  go_simp
                simp only [Act.put, List.setIfInBounds_toArray, List.set_cons_zero, List.set_cons_succ]
                refine wpAnyH_take (i := 16) (oi := { dst := some 138, op := Go.Op.move (Go.Operand.tmp 15), type := 3, pos := "outright.go:198", after := #[{ on := 8, ground := Go.Ground.guard }], guard := some (8, false) }) (v := .int .i64 (j : Int)) rfl (by kernel_rfl) (by kernel_rfl) (by kernel_rfl) (fun _ _ _ h => h) (Or.inl ⟨by kernel_rfl, ?_⟩) hS ?_
                · intro w5 hSw
                  clear hSw hS
                  go_simp
                simp only [Act.put, List.setIfInBounds_toArray, List.set_cons_zero, List.set_cons_succ]
                refine wpAnyH_take (i := 17) (oi := { dst := some 139, op := Go.Op.indexAddr 54 (Go.Operand.tmp 137) (Go.Operand.tmp 138), type := 0, pos := "outright.go:198", after := #[{ on := 15, ground := Go.Ground.data }, { on := 16, ground := Go.Ground.data }, { on := 8, ground := Go.Ground.guard }], guard := some (8, false) }) (v := .pointer (some ⟨g7, j, none⟩)) rfl (by kernel_rfl) (by kernel_rfl) (by kernel_rfl) (fun _ _ _ h => h) (Or.inl ⟨by kernel_rfl, ?_⟩) hS ?_
                · intro w5 hSw
                  clear hSw hS
                  go_simp
                simp only [Act.put, List.setIfInBounds_toArray, List.set_cons_zero, List.set_cons_succ]
                refine wpAnyH_take (i := 18) (oi := { dst := some 140, op := Go.Op.load 29 (Go.Operand.tmp 139), type := 29, pos := "outright.go:198", after := #[{ on := 17, ground := Go.Ground.data }, { on := 8, ground := Go.Ground.guard }], guard := some (8, false) }) (v := .slice ak kj.length ck) rfl (by kernel_rfl) (by kernel_rfl) (by kernel_rfl) (fun _ _ _ h => h) (Or.inl ⟨by kernel_rfl, ?_⟩) hS ?_
                · intro w5 hSw
                  have h0 := hSw.cell HKx.out
                  clear hSw hS
                  go_simp
                simp only [Act.put, List.setIfInBounds_toArray, List.set_cons_zero, List.set_cons_succ]
                refine wpAnyH_take (i := 19) (oi := { dst := some 141, op := Go.Op.move (Go.Operand.tmp 16), type := 3, pos := "outright.go:198", after := #[{ on := 8, ground := Go.Ground.guard }], guard := some (8, false) }) (v := .int .i64 (lg : Int)) rfl (by kernel_rfl) (by kernel_rfl) (by kernel_rfl) (fun _ _ _ h => h) (Or.inl ⟨by kernel_rfl, ?_⟩) hS ?_
                · intro w5 hSw
                  clear hSw hS
                  go_simp
                simp only [Act.put, List.setIfInBounds_toArray, List.set_cons_zero, List.set_cons_succ]
                refine wpAnyH_take (i := 20) (oi := { dst := some 142, op := Go.Op.slice 29 (Go.Operand.tmp 140) none (some (Go.Operand.tmp 141)) none, type := 29, pos := "outright.go:198", after := #[{ on := 18, ground := Go.Ground.data }, { on := 19, ground := Go.Ground.data }, { on := 8, ground := Go.Ground.guard }], guard := some (8, false) }) (v := .slice ak lg ck) rfl (by kernel_rfl) (by kernel_rfl) (by kernel_rfl) (fun _ _ _ h => h) (Or.inl ⟨by kernel_rfl, ?_⟩) hS ?_
                · intro w5 hSw
                  clear hSw hS
                  exact exec_cutSl hlg hck rfl rfl rfl hak
                simp only [Act.put, List.setIfInBounds_toArray, List.set_cons_zero, List.set_cons_succ]
                refine wpAnyH_take (i := 21) (oi := { dst := some 143, op := Go.Op.convert 29 9 (Go.Operand.tmp 142), type := 9, pos := "outright.go:198", after := #[{ on := 20, ground := Go.Ground.data }, { on := 8, ground := Go.Ground.guard }], guard := some (8, false) }) (v := .string ⟨kt.toArray⟩) rfl (by kernel_rfl) (by kernel_rfl) (by kernel_rfl) (fun _ _ _ h => h) (Or.inl ⟨by kernel_rfl, ?_⟩) hS ?_
                · intro w5 hSw
                  have h0 := conv_sb2 (HSb2.out.up hSw)
                  clear hSw hS
                  go_simp
                simp only [Act.put, List.setIfInBounds_toArray, List.set_cons_zero, List.set_cons_succ]
                refine wpAnyH_take (i := 22) (oi := { dst := some 144, op := Go.Op.binOp Go.BinOp.neq 9 (Go.Operand.tmp 136) (Go.Operand.tmp 143) 9, type := 4, pos := "outright.go:198", after := #[{ on := 14, ground := Go.Ground.data }, { on := 21, ground := Go.Ground.data }, { on := 8, ground := Go.Ground.guard }], guard := some (8, false) }) (v := .bool false) rfl (by kernel_rfl) (by kernel_rfl) (by kernel_rfl) (fun _ _ _ h => h) (Or.inl ⟨by kernel_rfl, ?_⟩) hS ?_
                · intro w5 hSw
                  clear hSw hS
                  go_simp
                simp only [Act.put, List.setIfInBounds_toArray, List.set_cons_zero, List.set_cons_succ]
                refine wpAnyH_take (i := 23) (oi := { dst := some 145, op := Go.Op.pick (Go.Operand.tmp 130) (Go.Operand.const (Go.Value.bool true)) (Go.Operand.tmp 144), type := 4, pos := "outright.go:198", after := #[{ on := 8, ground := Go.Ground.data }, { on := 22, ground := Go.Ground.data }], guard := none }) (v := .bool false) rfl (by kernel_rfl) (by kernel_rfl) (by kernel_rfl) (fun _ _ _ h => h) (Or.inl ⟨by kernel_rfl, ?_⟩) hS ?_
                · intro w5 hSw
                  clear hSw hS
                  go_simp
                simp only [Act.put, List.setIfInBounds_toArray, List.set_cons_zero, List.set_cons_succ]
                have HSY := Hid.of hS
                clear hS
                refine wpAnyH_done (by kernel_rfl) ?_ _
                go_wp2
                go_roundw
                all_goals first
                  | exact ⟨j + 1, by go_num, by omega, Hid.of (HU.out.trans HSY.out)⟩
                  | (simp [intOf]; omega)
              · have hc1z : ¬ (j : Int) + 1 < (cs.length : Int) := by omega
                have hlg0 : lg = 0 := by rw [← hlgd]; exact cz_out hc1
                subst hlg0
                have HSW := Hid.of (Up.refl wr)
                clear hlgd
                go_wp2
                refine wp_region_held_drew (S := fun w2 => Up wr w2) (by kernel_rfl) HSW.out.drew (fun hS => ?_)
                refine wpAnyH_take (i := 0) (oi := { dst := some 122, op := Go.Op.move (Go.Operand.tmp 12), type := 52, pos := "outright.go:198", after := #[], guard := none }) (v := .slice (some ⟨b9, o9, none⟩) fs.length c9) rfl (by kernel_rfl) (by kernel_rfl) (by kernel_rfl) (fun _ _ _ h => h) (Or.inl ⟨by kernel_rfl, ?_⟩) hS ?_
                · intro w5 hSw
                  clear hSw hS
                  go_simp
                simp only [Act.put, List.setIfInBounds_toArray, List.set_cons_zero, List.set_cons_succ]
                refine wpAnyH_take (i := 1) (oi := { dst := some 123, op := Go.Op.move (Go.Operand.tmp 15), type := 3, pos := "outright.go:198", after := #[], guard := none }) (v := .int .i64 (j : Int)) rfl (by kernel_rfl) (by kernel_rfl) (by kernel_rfl) (fun _ _ _ h => h) (Or.inl ⟨by kernel_rfl, ?_⟩) hS ?_
                · intro w5 hSw
                  clear hSw hS
                  go_simp
                simp only [Act.put, List.setIfInBounds_toArray, List.set_cons_zero, List.set_cons_succ]
                refine wpAnyH_take (i := 2) (oi := { dst := some 124, op := Go.Op.indexAddr 52 (Go.Operand.tmp 122) (Go.Operand.tmp 123), type := 0, pos := "outright.go:198", after := #[{ on := 0, ground := Go.Ground.data }, { on := 1, ground := Go.Ground.data }], guard := none }) (v := .pointer (some ⟨b9, o9 + j * 2, none⟩)) rfl (by kernel_rfl) (by kernel_rfl) (by kernel_rfl) (fun _ _ _ h => h) (Or.inl ⟨by kernel_rfl, ?_⟩) hS ?_
                · intro w5 hSw
                  clear hSw hS
                  exact exec_idxFile j hjf rfl rfl rfl
                simp only [Act.put, List.setIfInBounds_toArray, List.set_cons_zero, List.set_cons_succ]
                refine wpAnyH_take (i := 3) (oi := { dst := some 125, op := Go.Op.fieldAddr 51 (Go.Operand.tmp 124) 0, type := 0, pos := "outright.go:198", after := #[{ on := 2, ground := Go.Ground.data }], guard := none }) (v := .pointer (some ⟨b9, o9 + j * 2, none⟩)) rfl (by kernel_rfl) (by kernel_rfl) (by kernel_rfl) (fun _ _ _ h => h) (Or.inl ⟨by kernel_rfl, ?_⟩) hS ?_
                · intro w5 hSw
                  clear hSw hS
                  go_simp
                simp only [Act.put, List.setIfInBounds_toArray, List.set_cons_zero, List.set_cons_succ]
                refine wpAnyH_take (i := 4) (oi := { dst := some 126, op := Go.Op.load 9 (Go.Operand.tmp 125), type := 9, pos := "outright.go:198", after := #[{ on := 3, ground := Go.Ground.data }], guard := none }) (v := .string ⟨(ltr j).toArray⟩) rfl (by kernel_rfl) (by kernel_rfl) (by kernel_rfl) (fun _ _ _ h => h) (Or.inl ⟨by kernel_rfl, ?_⟩) hS ?_
                · intro w5 hSw
                  have h0 := hSw.cell HF1.out
                  clear hSw hS
                  go_simp
                simp only [Act.put, List.setIfInBounds_toArray, List.set_cons_zero, List.set_cons_succ]
                refine wpAnyH_take (i := 5) (oi := { dst := some 127, op := Go.Op.move (Go.Operand.tmp 15), type := 3, pos := "outright.go:198", after := #[], guard := none }) (v := .int .i64 (j : Int)) rfl (by kernel_rfl) (by kernel_rfl) (by kernel_rfl) (fun _ _ _ h => h) (Or.inl ⟨by kernel_rfl, ?_⟩) hS ?_
                · intro w5 hSw
                  clear hSw hS
                  go_simp
                simp only [Act.put, List.setIfInBounds_toArray, List.set_cons_zero, List.set_cons_succ]
                refine wpAnyH_ready (rs := [6]) (by kernel_rfl) (by simp) ?_
                refine AllReadyH.cons (o := { dst := some 128, op := Go.Op.call { callee := Go.Callee.value (Go.Operand.func 16), args := #[Go.Operand.tmp 127], argTypes := #[3] }, type := 9, pos := "outright.go:198", after := #[{ on := 5, ground := Go.Ground.data }], guard := none }) rfl (fun K hK => ?_) AllReadyH.nil
                rw [if_pos (by kernel_rfl)]
                go_simp
                refine (letters_walk j (by omega) _).mono ?_
                rintro e w5 ⟨rfl, u5⟩
                dsimp only
                refine hK.out _ _ (hS.trans u5) (fun hS => ?_)
                clear hK K u5
                refine wpAnyH_take (i := 7) (oi := { dst := some 129, op := Go.Op.binOp Go.BinOp.neq 9 (Go.Operand.tmp 126) (Go.Operand.tmp 128) 9, type := 4, pos := "outright.go:198", after := #[{ on := 4, ground := Go.Ground.data }, { on := 6, ground := Go.Ground.data }], guard := none }) (v := .bool false) rfl (by kernel_rfl) (by kernel_rfl) (by kernel_rfl) (fun _ _ _ h => h) (Or.inl ⟨by kernel_rfl, ?_⟩) hS ?_
                · intro w5 hSw
                  clear hSw hS
                  go_simp
                simp only [Act.put, List.setIfInBounds_toArray, List.set_cons_zero, List.set_cons_succ]
                refine wpAnyH_take (i := 8) (oi := { dst := some 130, op := Go.Op.move (Go.Operand.tmp 129), type := 4, pos := "outright.go:198", after := #[{ on := 7, ground := Go.Ground.data }, { on := 6, ground := Go.Ground.chain }], guard := none }) (v := .bool false) rfl (by kernel_rfl) (by kernel_rfl) (by kernel_rfl) (fun _ _ _ h => h) (Or.inl ⟨by kernel_rfl, ?_⟩) hS ?_
                · intro w5 hSw
                  clear hSw hS
                  go_simp
                simp only [Act.put, List.setIfInBounds_toArray, List.set_cons_zero, List.set_cons_succ]
                refine wpAnyH_take (i := 9) (oi := { dst := some 131, op := Go.Op.move (Go.Operand.tmp 12), type := 52, pos := "outright.go:198", after := #[{ on := 8, ground := Go.Ground.guard }], guard := some (8, false) }) (v := .slice (some ⟨b9, o9, none⟩) fs.length c9) rfl (by kernel_rfl) (by kernel_rfl) (by kernel_rfl) (fun _ _ _ h => h) (Or.inl ⟨by kernel_rfl, ?_⟩) hS ?_
                · intro w5 hSw
                  clear hSw hS
                  go_simp
                simp only [Act.put, List.setIfInBounds_toArray, List.set_cons_zero, List.set_cons_succ]
                refine wpAnyH_take (i := 10) (oi := { dst := some 132, op := Go.Op.move (Go.Operand.tmp 15), type := 3, pos := "outright.go:198", after := #[{ on := 8, ground := Go.Ground.guard }], guard := some (8, false) }) (v := .int .i64 (j : Int)) rfl (by kernel_rfl) (by kernel_rfl) (by kernel_rfl) (fun _ _ _ h => h) (Or.inl ⟨by kernel_rfl, ?_⟩) hS ?_
                · intro w5 hSw
                  clear hSw hS
                  go_simp
                simp only [Act.put, List.setIfInBounds_toArray, List.set_cons_zero, List.set_cons_succ]
                refine wpAnyH_take (i := 11) (oi := { dst := some 133, op := Go.Op.indexAddr 52 (Go.Operand.tmp 131) (Go.Operand.tmp 132), type := 0, pos := "outright.go:198", after := #[{ on := 9, ground := Go.Ground.data }, { on := 10, ground := Go.Ground.data }, { on := 8, ground := Go.Ground.guard }], guard := some (8, false) }) (v := .pointer (some ⟨b9, o9 + j * 2, none⟩)) rfl (by kernel_rfl) (by kernel_rfl) (by kernel_rfl) (fun _ _ _ h => h) (Or.inl ⟨by kernel_rfl, ?_⟩) hS ?_
                · intro w5 hSw
                  clear hSw hS
                  exact exec_idxFile j hjf rfl rfl rfl
                simp only [Act.put, List.setIfInBounds_toArray, List.set_cons_zero, List.set_cons_succ]
                refine wpAnyH_take (i := 12) (oi := { dst := some 134, op := Go.Op.fieldAddr 51 (Go.Operand.tmp 133) 1, type := 0, pos := "outright.go:198", after := #[{ on := 11, ground := Go.Ground.data }, { on := 8, ground := Go.Ground.guard }], guard := some (8, false) }) (v := .pointer (some ⟨b9, o9 + j * 2 + 1, none⟩)) rfl (by kernel_rfl) (by kernel_rfl) (by kernel_rfl) (fun _ _ _ h => h) (Or.inl ⟨by kernel_rfl, ?_⟩) hS ?_
                · intro w5 hSw
                  clear hSw hS
                  go_simp
                simp only [Act.put, List.setIfInBounds_toArray, List.set_cons_zero, List.set_cons_succ]
                refine wpAnyH_take (i := 13) (oi := { dst := some 135, op := Go.Op.load 29 (Go.Operand.tmp 134), type := 29, pos := "outright.go:198", after := #[{ on := 12, ground := Go.Ground.data }, { on := 8, ground := Go.Ground.guard }], guard := some (8, false) }) (v := gv) rfl (by kernel_rfl) (by kernel_rfl) (by kernel_rfl) (fun _ _ _ h => h) (Or.inl ⟨by kernel_rfl, ?_⟩) hS ?_
                · intro w5 hSw
                  have h0 := hSw.cell HF2.out
                  clear hSw hS
                  go_simp
                simp only [Act.put, List.setIfInBounds_toArray, List.set_cons_zero, List.set_cons_succ]
                refine wpAnyH_take (i := 14) (oi := { dst := some 136, op := Go.Op.convert 29 9 (Go.Operand.tmp 135), type := 9, pos := "outright.go:198", after := #[{ on := 13, ground := Go.Ground.data }, { on := 8, ground := Go.Ground.guard }], guard := some (8, false) }) (v := .string ⟨kt.toArray⟩) rfl (by kernel_rfl) (by kernel_rfl) (by kernel_rfl) (fun _ _ _ h => h) (Or.inl ⟨by kernel_rfl, ?_⟩) hS ?_
                · intro w5 hSw
                  have h0 := conv_sb2 (HSb1.out.up hSw)
                  clear hSw hS
                  go_simp
                simp only [Act.put, List.setIfInBounds_toArray, List.set_cons_zero, List.set_cons_succ]
                refine wpAnyH_take (i := 15) (oi := { dst := some 137, op := Go.Op.move (Go.Operand.tmp 7), type := 54, pos := "outright.go:198", after := #[{ on := 8, ground := Go.Ground.guard }], guard := some (8, false) }) (v := .slice (some ⟨g7, 0, none⟩) n c7) rfl (by kernel_rfl) (by kernel_rfl) (by kernel_rfl) (fun _ _ _ h => h) (Or.inl ⟨by kernel_rfl, ?_⟩) hS ?_
                · intro w5 hSw
                  clear hSw hS
                  go_simp
                simp only [Act.put, List.setIfInBounds_toArray, List.set_cons_zero, List.set_cons_succ]
                refine wpAnyH_take (i := 16) (oi := { dst := some 138, op := Go.Op.move (Go.Operand.tmp 15), type := 3, pos := "outright.go:198", after := #[{ on := 8, ground := Go.Ground.guard }], guard := some (8, false) }) (v := .int .i64 (j : Int)) rfl (by kernel_rfl) (by kernel_rfl) (by kernel_rfl) (fun _ _ _ h => h) (Or.inl ⟨by kernel_rfl, ?_⟩) hS ?_
                · intro w5 hSw
                  clear hSw hS
                  go_simp
                simp only [Act.put, List.setIfInBounds_toArray, List.set_cons_zero, List.set_cons_succ]
                refine wpAnyH_take (i := 17) (oi := { dst := some 139, op := Go.Op.indexAddr 54 (Go.Operand.tmp 137) (Go.Operand.tmp 138), type := 0, pos := "outright.go:198", after := #[{ on := 15, ground := Go.Ground.data }, { on := 16, ground := Go.Ground.data }, { on := 8, ground := Go.Ground.guard }], guard := some (8, false) }) (v := .pointer (some ⟨g7, j, none⟩)) rfl (by kernel_rfl) (by kernel_rfl) (by kernel_rfl) (fun _ _ _ h => h) (Or.inl ⟨by kernel_rfl, ?_⟩) hS ?_
                · intro w5 hSw
                  clear hSw hS
                  go_simp
                simp only [Act.put, List.setIfInBounds_toArray, List.set_cons_zero, List.set_cons_succ]
                refine wpAnyH_take (i := 18) (oi := { dst := some 140, op := Go.Op.load 29 (Go.Operand.tmp 139), type := 29, pos := "outright.go:198", after := #[{ on := 17, ground := Go.Ground.data }, { on := 8, ground := Go.Ground.guard }], guard := some (8, false) }) (v := .slice ak kj.length ck) rfl (by kernel_rfl) (by kernel_rfl) (by kernel_rfl) (fun _ _ _ h => h) (Or.inl ⟨by kernel_rfl, ?_⟩) hS ?_
                · intro w5 hSw
                  have h0 := hSw.cell HKx.out
                  clear hSw hS
                  go_simp
                simp only [Act.put, List.setIfInBounds_toArray, List.set_cons_zero, List.set_cons_succ]
                refine wpAnyH_take (i := 19) (oi := { dst := some 141, op := Go.Op.move (Go.Operand.tmp 16), type := 3, pos := "outright.go:198", after := #[{ on := 8, ground := Go.Ground.guard }], guard := some (8, false) }) (v := .int .i64 0) rfl (by kernel_rfl) (by kernel_rfl) (by kernel_rfl) (fun _ _ _ h => h) (Or.inl ⟨by kernel_rfl, ?_⟩) hS ?_
                · intro w5 hSw
                  clear hSw hS
                  go_simp
                simp only [Act.put, List.setIfInBounds_toArray, List.set_cons_zero, List.set_cons_succ]
                refine wpAnyH_take (i := 20) (oi := { dst := some 142, op := Go.Op.slice 29 (Go.Operand.tmp 140) none (some (Go.Operand.tmp 141)) none, type := 29, pos := "outright.go:198", after := #[{ on := 18, ground := Go.Ground.data }, { on := 19, ground := Go.Ground.data }, { on := 8, ground := Go.Ground.guard }], guard := some (8, false) }) (v := .slice ak 0 ck) rfl (by kernel_rfl) (by kernel_rfl) (by kernel_rfl) (fun _ _ _ h => h) (Or.inl ⟨by kernel_rfl, ?_⟩) hS ?_
                · intro w5 hSw
                  clear hSw hS
                  exact exec_cutSl hlg hck rfl rfl rfl hak
                simp only [Act.put, List.setIfInBounds_toArray, List.set_cons_zero, List.set_cons_succ]
                refine wpAnyH_take (i := 21) (oi := { dst := some 143, op := Go.Op.convert 29 9 (Go.Operand.tmp 142), type := 9, pos := "outright.go:198", after := #[{ on := 20, ground := Go.Ground.data }, { on := 8, ground := Go.Ground.guard }], guard := some (8, false) }) (v := .string ⟨kt.toArray⟩) rfl (by kernel_rfl) (by kernel_rfl) (by kernel_rfl) (fun _ _ _ h => h) (Or.inl ⟨by kernel_rfl, ?_⟩) hS ?_
                · intro w5 hSw
                  have h0 := conv_sb2 (HSb2.out.up hSw)
                  clear hSw hS
                  go_simp
                simp only [Act.put, List.setIfInBounds_toArray, List.set_cons_zero, List.set_cons_succ]
                refine wpAnyH_take (i := 22) (oi := { dst := some 144, op := Go.Op.binOp Go.BinOp.neq 9 (Go.Operand.tmp 136) (Go.Operand.tmp 143) 9, type := 4, pos := "outright.go:198", after := #[{ on := 14, ground := Go.Ground.data }, { on := 21, ground := Go.Ground.data }, { on := 8, ground := Go.Ground.guard }], guard := some (8, false) }) (v := .bool false) rfl (by kernel_rfl) (by kernel_rfl) (by kernel_rfl) (fun _ _ _ h => h) (Or.inl ⟨by kernel_rfl, ?_⟩) hS ?_
                · intro w5 hSw
                  clear hSw hS
                  go_simp
                simp only [Act.put, List.setIfInBounds_toArray, List.set_cons_zero, List.set_cons_succ]
                refine wpAnyH_take (i := 23) (oi := { dst := some 145, op := Go.Op.pick (Go.Operand.tmp 130) (Go.Operand.const (Go.Value.bool true)) (Go.Operand.tmp 144), type := 4, pos := "outright.go:198", after := #[{ on := 8, ground := Go.Ground.data }, { on := 22, ground := Go.Ground.data }], guard := none }) (v := .bool false) rfl (by kernel_rfl) (by kernel_rfl) (by kernel_rfl) (fun _ _ _ h => h) (Or.inl ⟨by kernel_rfl, ?_⟩) hS ?_
                · intro w5 hSw
                  clear hSw hS
                  go_simp
                simp only [Act.put, List.setIfInBounds_toArray, List.set_cons_zero, List.set_cons_succ]
                have HSY := Hid.of hS
                clear hS
                refine wpAnyH_done (by kernel_rfl) ?_ _
                go_wp2
                go_roundw
                all_goals first
                  | exact ⟨j + 1, by go_num, by omega, Hid.of (HU.out.trans HSY.out)⟩
                  | (simp [intOf]; omega)
            · have hjz : ¬ (j : Int) < (fs.length : Int) := by omega
              go_wp2
              go_ret
              exact ⟨rfl, HUw.out.trans HU.out⟩
        · have hc0z : ¬ (0 : Int) < (cs.length : Int) := by omega
          have hfl0 : fs.length = 0 := by rw [HFo.out.1, cz_out hc0]
          obtain rfl := List.eq_nil_of_length_eq_zero hfl0
          clear HFo HFs HK9 hfl0
          go_wp2
          go_loopw [15] (fun v15 wr => v15 = .int .i64 0 ∧ Hid (Up w9 wr)) (fun _ _ => 0)
          case atStart => exact ⟨rfl, Hid.of (Up.refl _)⟩
          case round =>
            obtain ⟨rfl, hU⟩ := hrel
            go_wp2
            go_ret
            exact ⟨rfl, HUw.out.trans hU.out⟩
end Go.Proofs.YtepakbghhnkcfaaDoor
namespace Go.Proofs.YtepakbghhnkcfaaDoor
open Go.ChangeShapes Go.WideShapes Go.ChangeAt Go.WideMaps Go.WideElems Go.RowKit TextNum
set_option maxRecDepth 100000 in
theorem cells8 : Tryd.prog.cellsOf 5 = 1 := by kernel_rfl
set_option maxRecDepth 100000 in
theorem bytes8 : Tryd.prog.bytesOf 5 = 1 := by kernel_rfl
theorem plain_of {W : World} {ad : Addr} {v : Value} (h : W.cell? (ad.add 0) = some v) : ad.spot = none := by
  have e : ad.add 0 = ad := by unfold Addr.add; rw [if_pos rfl]
  rw [e] at h
  obtain ⟨b, off, sp⟩ := ad
  cases sp with
  | none => rfl
  | some s => exfalso; simp only [World.cell?] at h; split at h <;> simp at h
theorem mem_all {H : Type} {P : Program} {e : TypeId} : ∀ {l : List (DataW H)} {j : Nat} {d : DataW H}, l[j]? = some d → ∀ n ∈ d.weights P e, n ∈ DataW.weightsAll P e l
  | d0 :: l, 0, d, hd, n, hn => by
    simp only [List.getElem?_cons_zero, Option.some.injEq] at hd
    subst hd
    simp only [DataW.weightsAll, List.mem_append]
    exact .inl hn
  | d0 :: l, j + 1, d, hd, n, hn => by
    simp only [List.getElem?_cons_succ] at hd
    simp only [DataW.weightsAll, List.mem_append]
    exact .inr (mem_all hd n hn)
  | [], _, _, hd, _, _ => by simp at hd
theorem sb_open {H : Type} {enc : TypeId × Value → H} {W : World} {fuel N : Nat} {l : List Value} {d : DataW H} {ps : List MemPlace}
    (hf' : DataW.trod enc Tryd.prog W 0 (fun _ => true) true fuel 29 l = some (d, ps)) (hN : ∀ n ∈ d.weights Tryd.prog 29, n ≤ N) :
    ∃ v bs, l = [v] ∧ Sb W v bs ∧ bs.length ≤ N := by
  rcases open_ints Tryd.underlying29 Tryd.underlying5 cells8 hf' with ⟨e1, _⟩ | ⟨ad, len, cap, zs, e1, _, hlc, hcm, hzl, hx, hcell, hwf⟩
  · exact ⟨_, [], e1, ⟨none, 0, rfl, Nat.le_refl _, by simp [maxLen], fun _ => ⟨rfl, rfl⟩, (fun _ e => by cases e)⟩, Nat.zero_le _⟩
  · simp only [if_true] at hzl
    injection hx with hd _
    have hlen : ((zs.take len).map fun z => UInt8.ofNat z.toNat).length = len := by
      rw [List.length_map, List.length_take, Nat.min_eq_left (by omega)]
    refine ⟨_, (zs.take len).map fun z => UInt8.ofNat z.toNat, e1, ⟨some ad, cap, by rw [hlen], by rw [hlen]; omega, hcm, (fun e => by cases e), fun ad' e => ?_⟩, ?_⟩
    · obtain rfl := Option.some.inj e
      refine ⟨fun h0 => ?_, fun j u hj => ?_⟩
      · have h1 : 0 < len := by
          rcases Nat.eq_zero_or_pos len with h | h
          · exfalso; apply h0; subst h; simp
          · exact h
        exact plain_of (hcell 0 (by omega))
      · have hj1 : j < len := by
          have := (List.getElem?_eq_some_iff.1 hj).1
          rw [cb_length, hlen] at this
          exact this
        have hj2 : j < zs.length := by omega
        have hz := hwf zs[j] (List.getElem_mem hj2)
        have hb : 0 ≤ zs[j] ∧ zs[j] ≤ 255 := by
          simpa [Lit.wf, IntKind.min, IntKind.max, IntKind.signed, IntKind.bits] using hz
        have h1 := hcell j hj2
        rw [cb_get (by rw [hlen]; exact hj1)] at hj
        rw [h1, ← hj]
        simp only [List.getElem_map, List.getElem_take, List.getD_eq_getElem?_getD, List.getElem?_eq_getElem hj2, Option.getD_some]
        congr 2
        rw [UInt8.toNat_ofNat', Nat.mod_eq_of_lt (by omega)]
        omega
    · rw [hlen]
      have h1 := hN ((lits (H := H) .u8 (zs.take len)).length + (lits (H := H) .u8 (zs.drop len)).length) (by
        rw [hd]
        simp only [DataW.weights, Tryd.underlying29, bytes8, Nat.mul_one]
        exact List.mem_cons_self)
      have e : (lits (H := H) .u8 (zs.take len)).length = (zs.take len).length := by simp [lits]
      rw [e, List.length_take, Nat.min_eq_left (by omega)] at h1
      omega
set_option maxRecDepth 100000 in
theorem cellsI : Tryd.prog.cellsOf 3 = 1 := by kernel_rfl
set_option maxRecDepth 100000 in
theorem bytesI : Tryd.prog.bytesOf 3 = 8 := by kernel_rfl
set_option maxRecDepth 100000 in
theorem cellsSl1 : Tryd.prog.cellsOf 29 = 1 := by kernel_rfl
set_option maxRecDepth 100000 in
/-- a list of ints as an argument -/
theorem si_open {H : Type} {enc : TypeId × Value → H} {W : World} {v : Value} {d : DataW H} {ps : List MemPlace} {base : Nat}
    (hval : Value.okWide Tryd.prog W .any base 42 v) (h : DataW.Trod enc Tryd.prog W 0 (fun _ => true) true 42 v d ps) (hN : ∀ n ∈ d.weights Tryd.prog 42, n ≤ 140737488355000) : ∃ cs, SI W v cs ∧ cs.length ≤ 17592186044416 := by
  obtain ⟨a, len, cap, rfl⟩ := okWide_slice Tryd.underlying42 hval
  obtain ⟨fuel, hf⟩ := h
  have hf' : DataW.trod enc Tryd.prog W 0 (fun _ => true) true fuel 42 [.slice a len cap] = some (d, ps) := hf
  rcases open_ints Tryd.underlying42 Tryd.underlying3 cellsI hf' with ⟨e1, _⟩ | ⟨ad, l2, c2, zs, e1, _, hlc, hcm, hzl, hx, hcell, hwf⟩
  · simp only [List.cons.injEq, Value.slice.injEq, and_true] at e1
    obtain ⟨rfl, rfl, rfl⟩ := e1
    exact ⟨[], ⟨none, 0, rfl, Nat.le_refl _, by simp [maxLen], fun _ => ⟨rfl, rfl⟩, (fun _ e => by cases e)⟩, Nat.zero_le _⟩
  · simp only [List.cons.injEq, Value.slice.injEq, and_true] at e1
    obtain ⟨rfl, rfl, rfl⟩ := e1
    simp only [if_true] at hzl
    injection hx with hd _
    have hlen : (zs.take len).length = len := by rw [List.length_take, Nat.min_eq_left (by omega)]
    refine ⟨zs.take len, ⟨some ad, cap, by rw [hlen], by rw [hlen]; omega, hcm, (fun e => by cases e), fun ad' e => ?_⟩, ?_⟩
    · obtain rfl := Option.some.inj e
      refine ⟨fun h0 => ?_, fun j u hj => ?_⟩
      · have h1 : 0 < len := by
          rcases Nat.eq_zero_or_pos len with h | h
          · exfalso; apply h0; subst h; simp
          · exact h
        exact plain_of (hcell 0 (by omega))
      · have hj1 : j < len := by
          have := (List.getElem?_eq_some_iff.1 hj).1
          rw [ci_length, hlen] at this
          exact this
        have hj2 : j < zs.length := by omega
        have h1 := hcell j hj2
        have h2 : (ci (zs.take len))[j]? = some (.int .i64 zs[j]) := by
          unfold ci
          rw [List.getElem?_map, List.getElem?_take_of_lt hj1, List.getElem?_eq_getElem hj2]
          rfl
        rw [h2] at hj
        rw [h1, ← hj]
        simp only [List.getD_eq_getElem?_getD, List.getElem?_eq_getElem hj2, Option.getD_some]
    · rw [hlen]
      have h1 := hN (((lits (H := H) .i64 (zs.take len)).length + (lits (H := H) .i64 (zs.drop len)).length) * 8) (by
        rw [hd]
        simp only [DataW.weights, Tryd.underlying42, bytesI]
        exact List.mem_cons_self)
      have e : (lits (H := H) .i64 (zs.take len)).length = (zs.take len).length := by simp [lits]
      rw [e, hlen] at h1
      omega
set_option maxRecDepth 100000 in
/-- lists of bytes as an argument -/
theorem sts_open {H : Type} {enc : TypeId × Value → H} {W : World} {v : Value} {d : DataW H} {ps : List MemPlace} {base : Nat}
    (hval : Value.okWide Tryd.prog W .any base 54 v) (h : DataW.Trod enc Tryd.prog W 0 (fun _ => true) true 54 v d ps) (hN : ∀ n ∈ d.weights Tryd.prog 54, n ≤ 140737488355000) : ∃ a ls c, v = .slice a (List.length ls) c ∧ STs W a ls c ∧ List.length ls ≤ 4611686018427387904 := by
  obtain ⟨a, len, cap, rfl⟩ := okWide_slice Tryd.underlying54 hval
  obtain ⟨fuel, hf⟩ := h
  have hf' : DataW.trod enc Tryd.prog W 0 (fun _ => true) true fuel 54 [.slice a len cap] = some (d, ps) := hf
  rcases DataW.trod_slice Tryd.underlying54 hf' with ⟨e1, _⟩ | ⟨ad, l2, c2, elems, rest, n, _, e1, hx, _, hlc, hcm, hel0, hel, _, _⟩
  · simp only [List.cons.injEq, Value.slice.injEq, and_true] at e1
    obtain ⟨rfl, rfl, rfl⟩ := e1
    exact ⟨none, [], 0, rfl, ⟨Nat.le_refl _, (fun i hi => by cases hi), (fun p hp => by cases hp)⟩, Nat.zero_le _⟩
  · simp only [List.cons.injEq, Value.slice.injEq, and_true] at e1
    obtain ⟨rfl, rfl, rfl⟩ := e1
    injection hx with hd _
    rw [cellsSl1] at hel
    have key : ∀ i, i < len → ∃ (u : Value) (l : List UInt8), W.cell? (ad.add i) = some u ∧ Sb W u l ∧ l.length ≤ 140737488355328 := by
      intro i hi
      have h1 := hel i hi
      rw [List.getElem?_eq_getElem (by omega), Option.bind_eq_some_iff] at h1
      obtain ⟨cs, hcs, hy⟩ := h1
      obtain ⟨u, l, rfl, h2, h3⟩ := sb_open (N := 140737488355000) hy (fun n hn1 => hN n (by
        rw [hd]
        simp only [DataW.weights, Tryd.underlying54]
        refine List.mem_cons_of_mem _ (List.mem_append_left _ (mem_all (j := i) (d := (elems[i]'(by omega)).1) (by rw [List.getElem?_map, List.getElem?_eq_getElem (by omega)]; rfl) n hn1))))
      have h4 := (World.cells?_some hcs).2.2 0 (by decide)
      rw [Nat.mul_one] at h4
      have e : (ad.add i).add 0 = ad.add i := by
        obtain ⟨b, off, sp⟩ := ad
        unfold Addr.add
        split <;> simp_all
      rw [e] at h4
      exact ⟨u, l, h4.trans rfl, h2, by omega⟩
    have mk : ∀ k, k ≤ len → ∃ ls : List (List UInt8), ls.length = k ∧ ∀ i (hi : i < ls.length), ∃ u, W.cell? (ad.add i) = some u ∧ Sb W u ls[i] ∧ (ls[i]).length ≤ 140737488355328 := by
      intro k
      induction k with
      | zero => exact fun _ => ⟨[], rfl, fun i hi => by cases hi⟩
      | succ k ih =>
        intro hk
        obtain ⟨ts, hl, ht⟩ := ih (by omega)
        obtain ⟨u, l, hk2⟩ := key k (by omega)
        refine ⟨ts ++ [l], by rw [List.length_append, hl]; rfl, fun i hi => ?_⟩
        by_cases hik : i < ts.length
        · rw [List.getElem_append_left hik]
          exact ht i hik
        · have e : i = k := by rw [List.length_append] at hi; simp at hi; omega
          subst e
          rw [List.getElem_append_right (by omega)]
          simp only [hl, Nat.sub_self, List.getElem_cons_zero]
          exact ⟨u, hk2⟩
    obtain ⟨ls, hl, ht⟩ := mk len (Nat.le_refl _)
    refine ⟨some ad, ls, cap, by rw [hl], ⟨by rw [hl]; exact hlc, fun i hi => ?_, fun p hp => ?_⟩, ?_⟩
    · obtain ⟨u, h1, h2, _⟩ := ht i hi
      obtain ⟨u0, h3, _⟩ := ht 0 (by omega)
      have hsp := plain_of h3
      obtain ⟨b, off, sp⟩ := ad
      obtain rfl : sp = none := hsp
      rw [Addr.add_lit] at h1
      exact ⟨b, off, u, rfl, h1, h2⟩
    · obtain ⟨i, hi, rfl⟩ := List.getElem_of_mem hp
      obtain ⟨_, _, _, h3⟩ := ht i hi
      exact h3
    · rw [hl]
      have h1 := hN ((elems.length + rest.length) * 24) (by
        rw [hd]
        simp only [DataW.weights, Tryd.underlying54, show Tryd.prog.bytesOf 29 = 24 by kernel_rfl, List.length_map]
        exact List.mem_cons_self)
      omega
end Go.Proofs.YtepakbghhnkcfaaDoor
