import Derived.Test.YtaobnnlcfefodaaDoorWd
namespace Go.Proofs.YtaobnnlcfefodaaDoor
open Go.RowKit TextNum
theorem old_pre {l : List UInt8} (h : Go.Lib.hasPrefix l OLD = true) : l = OLD ++ l.drop 4 := by
  unfold Go.Lib.hasPrefix at h
  obtain ⟨t, ht⟩ := List.isPrefixOf_iff_prefix.1 h
  rw [← ht]
  rfl
theorem old_has (t : List UInt8) : Go.Lib.hasPrefix (OLD ++ t) OLD = true := by
  unfold Go.Lib.hasPrefix
  exact List.isPrefixOf_iff_prefix.2 ⟨t, rfl⟩
theorem szI_yes {a : List UInt8} (hl : a.length ≤ 1048576) {q : Int} (h : szI a = (q, true)) : a = OLD ++ Go.Lib.itoa q ∧ 0 ≤ q ∧ q ≤ 281474976710656 := by
  unfold szI at h
  split at h
  · rename_i hp
    injection h with h1 h2
    obtain ⟨k0, k1, k2⟩ := prs_iff (l := a.drop 4) (by rw [List.length_drop]; omega) (of_decide_eq_true h2)
    rw [h1] at k0 k1 k2
    exact ⟨by rw [k2]; exact old_pre hp, k0, k1⟩
  · injection h with _ h2
    cases h2
theorem szI_back {o : Int} (h0 : 0 ≤ o) (h1 : o ≤ 281474976710656) : szI (OLD ++ Go.Lib.itoa o) = (o, true) := by
  unfold szI
  rw [if_pos (old_has _), show (OLD ++ Go.Lib.itoa o).drop 4 = Go.Lib.itoa o from rfl, prs_back h0 h1]
  rfl
theorem results_tmp4 {fn : Func} {t u v x : Tmp} (h : fn.results = #[.tmp t, .tmp u, .tmp v, .tmp x]) (tmps : Array Value) (P : Program) (w : World) :
    (results fn tmps).run P w = .ok (.tuple #[tmps.getD t undef, tmps.getD u undef, tmps.getD v undef, tmps.getD x undef]) w := by
  simp [results, h]
theorem ho_base {w : World} {B B' : Nat} {v : Value} {hs : List (List UInt8)} (h : HO w B v hs) (k : B' ≤ B) : HO w B' v hs := by
  refine ⟨h.1, ?_⟩
  rcases h.2 with e | ⟨g, cap, cur, rfl, hb, r⟩
  · exact .inl e
  · exact .inr ⟨g, cap, cur, rfl, Nat.le_trans k hb, r⟩
/-- is it an ask? -/
def Ask (l : List UInt8) : Prop := ∃ o hs m, VA o hs m ∧ l = fmA o hs m
theorem ask_parts {l a b : List UInt8} (e : l = a ++ 10 :: b) (hna : (10 : UInt8) ∉ a) (h : Ask l) : (szI a).2 = true ∧ ∃ (hs : List (List UInt8)) (m : List UInt8), (∀ h ∈ hs, h.length = 32) ∧ hs.length ≤ 64 ∧ isNt m ∧ b = hs.flatMap hln ++ 10 :: m := by
  obtain ⟨o, hs, m, v, e'⟩ := h
  obtain ⟨e1, e2⟩ := first10 hna (old_no10 v.o0) (e.symm.trans e')
  exact ⟨by rw [e1, szI_back v.o0 v.o1], hs, m, v.l, v.n, v.m, e2⟩
/-- what ParseAsk answers -/
def PAR (l : List UInt8) (w : World) (e : Ending) (w' : World) : Prop := ∃ n pv hv er, e = .returned (.tuple #[.int .i64 n, pv, hv, .int .i64 er]) ∧ Up w w' ∧
  ((er = 0 ∧ ∃ hs m, VA n hs m ∧ l = fmA n hs m ∧ HO w' w.heap.size pv hs ∧ OwnM w' w.heap.size hv m) ∨ (er ≠ 0 ∧ n = 0 ∧ pv = .slice none 0 0 ∧ hv = .slice none 0 0 ∧ ¬ Ask l))
set_option maxRecDepth 100000 in
set_option maxHeartbeats 4000000 in
theorem ParseAsk_walk (v : Value) (l : List UInt8) (w : World) (hS : Sl w v l) (hT : TabL w) (hW : Go.Lib.WhiteTab 5 w) (hG : GN w) : Calls Tryd.prog 7 #[v] w (PAR l w) := by
  have HT := Hid.of hT
  have HW := Hid.of hW
  have HG := Hid.of hG
  have HC := Hid.of (conv_sl hS)
  clear hT hW hG
  obtain ⟨sa, sc, rfl, hc, _⟩ := hS
  obtain ⟨n, hn⟩ : ∃ n, l.length = n := ⟨_, rfl⟩
  rw [hn] at hc HC ⊢
  go_enter Tryd.func7, Tryd.ntmps7
  by_cases hL : 69000 < n
  · have hLz : (69000 : Int) < (n : Int) := by omega
    have HNO := Hid.of (show ¬ Ask l from fun ⟨o, hs, m, vv, e⟩ => by have := fm_len vv; rw [← e] at this; omega)
    clear hn
    go_wp2
    try simp only [Exit.inBlock, Exit.then]
    refine bodyPost_ret (results_tmp4 rfl _ _ _) rfl ?_
    exact ⟨_, _, _, _, rfl, Up.refl _, .inr ⟨by decide, rfl, rfl, rfl, HNO.out⟩⟩
  have hLz : ¬ (69000 : Int) < (n : Int) := by omega
  have hcv := HC.out
  rw [show vs l = .string ⟨l.toArray⟩ from rfl] at hcv
  go_wp2_with fail
  refine (Cut1_walk ⟨l.toArray⟩ (by rw [Go.Lib.size_eq]; show l.length ≤ 1048576; omega) 10 w).mono ?_
  rintro e w1 ⟨rfl, k, rfl⟩
  have HU1 := Hid.of ((Up.refl w).drewN k)
  generalize w.drewN k = w1 at *
  rw [show (⟨l.toArray⟩ : ByteArray).data.toList = l from rfl]
  obtain ⟨a, b, f, hcut, hab, hal, hbl⟩ : ∃ a b f, Go.Lib.cut l [10] = (a, b, f) ∧ ((l = a ++ 10 :: b ∧ (10 : UInt8) ∉ a) ∨ ((10 : UInt8) ∉ l ∧ b = [])) ∧ a.length ≤ 69000 ∧ b.length ≤ 69000 := by
    rcases cut_at l 10 with ⟨a, b, h1, h2, h3⟩ | ⟨h1, h2⟩
    · have := congrArg List.length h2
      rw [List.length_append, List.length_cons] at this
      exact ⟨a, b, true, h1, .inl ⟨h2, h3⟩, by omega, by omega⟩
    · exact ⟨l, [], false, h1, .inr ⟨h2, rfl⟩, by omega, by simp⟩
  rw [hcut]
  have HAB := Hid.of hab
  clear hcut hab hcv HC hL hn hc
  dsimp only
  have hZ := sizeIn_walk ⟨a.toArray⟩ w1 (HG.out.up HU1.out)
  rw [show (⟨a.toArray⟩ : ByteArray).data.toList = a from rfl] at hZ
  obtain ⟨q, bo, hq⟩ : ∃ q bo, szI a = (q, bo) := ⟨_, _, rfl⟩
  rw [hq] at hZ
  have HQ := Hid.of hq
  clear hq
  go_wp2_with fail
  refine hZ.mono ?_
  rintro e w2 ⟨rfl, u2⟩
  have HU2 := Hid.of (HU1.out.trans u2)
  clear hZ u2 HU1
  dsimp only
  go_wp2_with fail
  refine (cutProof_walk b (by omega) w2 (HT.out.up HU2.out)).mono ?_
  rintro e w3 ⟨u3, hcp⟩
  have HU3 := Hid.of (HU2.out.trans u3)
  have HS2 := Hid.of HU2.out.size
  clear u3 HU2
  rcases hcp with ⟨hs, r, pv, h32, h64, hb, rfl, hO⟩ | ⟨hno, rfl⟩
  · have hrl : r.length ≤ 69000 := by have := congrArg List.length hb; rw [List.length_append, List.length_cons] at this; omega
    have HB := Hid.of (And.intro hb (And.intro h32 h64))
    have HOO := Hid.of hO
    clear hb h32 h64 hO
    dsimp only
    go_wp2_with (with_reducible show wpList _ _ _ ({ dst := _, op := Op.convert 9 23 _, type := _, pos := _, after := _, guard := _ } :: _) _ _; refine Shut.out ?_)
    show wpList _ _ _ _ _ _
    refine wpList_conv rfl _ rfl ⟨r.toArray⟩ (by rw [Go.Lib.size_eq]; show r.length ≤ 140737488355328; omega) rfl ?_
    intro v4 w4 hO4 q4
    have HM4 := Hid.of (show OwnM w4 w.heap.size v4 r from hO4.base HU3.out.size)
    have HU4 := Hid.of (HU3.out.trans q4)
    have HP4 := Hid.of (HOO.out.up q4)
    clear hO4 q4 HU3 HOO
    simp only [Act.put, List.setIfInBounds_toArray, List.set_cons_zero, List.set_cons_succ]
    cases bo with
    | false =>
      have HNO := Hid.of (show ¬ Ask l from fun h => by
        rcases HAB.out with ⟨h1, h2⟩ | ⟨h1, h2⟩
        · have h3 := (ask_parts h1 h2 h).1
          rw [HQ.out] at h3
          cases h3
        · obtain ⟨o, hs', m', _, e⟩ := h
          exact h1 (by rw [e]; simp [fmA]))
      go_wp2
      try simp only [Exit.inBlock, Exit.then]
      refine bodyPost_ret (results_tmp4 rfl _ _ _) rfl ?_
      exact ⟨_, _, _, _, rfl, HU4.out, .inr ⟨by decide, rfl, rfl, rfl, HNO.out⟩⟩
    | true =>
      have hI := isNote_walk v4 r w4 HM4.out.sl (HT.out.up HU4.out) (WhiteTab_up HW.out HU4.out)
      by_cases hnt : ¬ isNt r
      · replace hI := hI false ⟨(fun h => by cases h), fun h => (hnt h).elim⟩
        have HNO := Hid.of (show ¬ Ask l from fun h => by
          rcases HAB.out with ⟨h1, h2⟩ | ⟨h1, h2⟩
          · obtain ⟨_, hs', m', k1, k2, k3, k4⟩ := ask_parts h1 h2 h
            obtain ⟨_, e2⟩ := hln_inj HB.out.2.1 k1 (HB.out.1.symm.trans k4)
            rw [e2] at hnt
            exact hnt k3
          · obtain ⟨o, hs', m', _, e⟩ := h
            exact h1 (by rw [e]; simp [fmA]))
        clear hnt
        go_wp2_with fail
        refine hI.mono ?_
        rintro e w5 ⟨rfl, q5⟩
        have HU5 := Hid.of (HU4.out.trans q5)
        clear hI q5
        dsimp only
        go_wp2
        try simp only [Exit.inBlock, Exit.then]
        refine bodyPost_ret (results_tmp4 rfl _ _ _) rfl ?_
        exact ⟨_, _, _, _, rfl, HU5.out, .inr ⟨by decide, rfl, rfl, rfl, HNO.out⟩⟩
      · have hnt : isNt r := Classical.not_not.1 hnt
        replace hI := hI true ⟨fun _ => hnt, fun _ => rfl⟩
        have HYES := Hid.of (show VA q hs r ∧ l = fmA q hs r by
          obtain ⟨e1, e2, e3⟩ := szI_yes (by omega) HQ.out
          refine ⟨⟨e2, e3, HB.out.2.2, HB.out.2.1, hnt⟩, ?_⟩
          rcases HAB.out with ⟨h1, h2⟩ | ⟨h1, h2⟩
          · rw [h1, e1, HB.out.1]
            rfl
          · have h3 := HB.out.1
            rw [h2] at h3
            simp at h3)
        clear hnt
        go_wp2_with fail
        refine hI.mono ?_
        rintro e w5 ⟨rfl, q5⟩
        have HU5 := Hid.of (HU4.out.trans q5)
        have HM5 := Hid.of (HM4.out.up q5)
        have HP5 := Hid.of (ho_base (HP4.out.up q5) HS2.out)
        clear hI q5
        dsimp only
        go_wp2
        try simp only [Exit.inBlock, Exit.then]
        refine bodyPost_ret (results_tmp4 rfl _ _ _) rfl ?_
        exact ⟨_, _, _, _, rfl, HU5.out, .inl ⟨rfl, hs, r, HYES.out.1, HYES.out.2, HP5.out, HM5.out⟩⟩
  · have HNO := Hid.of (show ¬ Ask l from fun h => by
      rcases HAB.out with ⟨h1, h2⟩ | ⟨h1, h2⟩
      · obtain ⟨_, hs', m', k1, k2, _, k4⟩ := ask_parts h1 h2 h
        exact hno ⟨hs', m', k1, k2, k4⟩
      · obtain ⟨o, hs', m', _, e⟩ := h
        exact h1 (by rw [e]; simp [fmA]))
    clear hno
    dsimp only
    go_wp2_with (with_reducible show wpList _ _ _ ({ dst := _, op := Op.convert 9 23 _, type := _, pos := _, after := _, guard := _ } :: _) _ _; refine Shut.out ?_)
    show wpList _ _ _ _ _ _
    refine wpList_conv rfl _ rfl ⟨#[]⟩ (by decide) rfl ?_
    intro v4 w4 hO4 q4
    have HU4 := Hid.of (HU3.out.trans q4)
    clear hO4 q4 HU3
    simp only [Act.put, List.setIfInBounds_toArray, List.set_cons_zero, List.set_cons_succ]
    cases bo with
    | false =>
      go_wp2
      try simp only [Exit.inBlock, Exit.then]
      refine bodyPost_ret (results_tmp4 rfl _ _ _) rfl ?_
      exact ⟨_, _, _, _, rfl, HU4.out, .inr ⟨by decide, rfl, rfl, rfl, HNO.out⟩⟩
    | true =>
      go_wp2
      try simp only [Exit.inBlock, Exit.then]
      refine bodyPost_ret (results_tmp4 rfl _ _ _) rfl ?_
      exact ⟨_, _, _, _, rfl, HU4.out, .inr ⟨by decide, rfl, rfl, rfl, HNO.out⟩⟩
end Go.Proofs.YtaobnnlcfefodaaDoor
