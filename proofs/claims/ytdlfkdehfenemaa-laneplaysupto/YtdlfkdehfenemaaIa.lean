import Derived.Test.YtdlfkdehfenemaaAs
import Derived.Test.YtdlfkdehfenemaaCb
namespace Go.Proofs.Ytdlfkdehfenemaa
open Go.RowKit Go.Conc TextNum
def ivs (l : List Nat) : List Value := l.map fun (i : Nat) => .int .i64 (i : Int)
theorem ivs_get {l : List Nat} {j : Nat} (h : j < l.length) : (ivs l)[j]? = some (.int .i64 (l[j] : Int)) := by
  unfold ivs
  rw [List.getElem?_map, List.getElem?_eq_getElem h]
  rfl
def mxl (l : List Nat) : Nat := l.foldl max 0
theorem mxl_snoc (l : List Nat) (x : Nat) : mxl (l ++ [x]) = max (mxl l) x := by
  unfold mxl
  rw [List.foldl_append]
  rfl
set_option maxRecDepth 100000 in
set_option maxHeartbeats 1000000 in
theorem Max_walk (w : World) (b : Nat) (t : TypeId) (l : List Nat) (h : At w b t (ivs l)) (h1 : 0 < l.length) (h2 : l.length ≤ 1000) : Calls Try.prog 55 #[.slice (some ⟨b, 0, none⟩) l.length l.length] w fun e w' => e = .returned (.int .i64 (mxl l : Int)) ∧ w' = w := by
  have HA := Hid.of h
  obtain ⟨n, hn⟩ : ∃ n, l.length = n := ⟨_, rfl⟩
  have HN := Hid.of (And.intro hn trivial)
  rw [hn] at h1 h2 ⊢
  have hnz : ¬ (n : Int) < 1 := by omega
  have hnz0 : (0 : Int) < (n : Int) := by omega
  obtain ⟨x0, hx0⟩ : ∃ x, l[0]'(by omega) = x := ⟨_, rfl⟩
  have c0 := HA.out.cell (ivs_get (l := l) (j := 0) (by omega))
  rw [hx0] at c0
  have HX := Hid.of (show mxl (l.take 1) = x0 from by
    rw [List.take_succ_eq_append_getElem (by omega), mxl_snoc, hx0]
    simp [mxl])
  clear h hn hx0
  go_enter Try.func55, Try.ntmps55
  go_wp2
  clear c0
  go_loopw [3, 4] (fun v3 v4 wr => ∃ j m : Nat, v4 = .int .i64 (j : Int) ∧ v3 = .int .i64 (m : Int) ∧ j ≤ n ∧ 1 ≤ j ∧ Hid (m = mxl (l.take j) ∧ wr = w)) (fun _ v4 _ => n - (intOf v4).toNat)
  case atStart => exact ⟨1, x0, rfl, rfl, by omega, by omega, Hid.of ⟨HX.out.symm, rfl⟩⟩
  case round =>
    obtain ⟨j, m, rfl, rfl, hj, hj1, hR⟩ := hrel
    obtain rfl := hR.out.2
    by_cases hlt : j < n
    · have hltz : (j : Int) < (n : Int) := by omega
      have hjw : IntKind.i64.wrap ((j : Int) + 1) = (j : Int) + 1 := by rw [IntKind.wrap_i64]; omega
      have hjl : j < l.length := by rw [HN.out.1]; exact hlt
      obtain ⟨x, hx⟩ : ∃ x, l[j] = x := ⟨_, rfl⟩
      have c0 := HA.out.cell (ivs_get (l := l) hjl)
      rw [hx] at c0
      have HM := Hid.of (show mxl (l.take (j + 1)) = max m x by rw [List.take_succ_eq_append_getElem hjl, mxl_snoc, hx, hR.out.1])
      clear hx hR
      go_wp2
      go_roundw
      case rel => exact ⟨j + 1, max m x, by simp, by congr 1; split <;> omega, by omega, by omega, Hid.of ⟨HM.out.symm, trivial⟩⟩
      case measure => simp [intOf]; omega
    · have hltz : ¬ (j : Int) < (n : Int) := by omega
      obtain rfl : j = n := by omega
      go_wp2
      go_ret
      rw [show mxl l = m by rw [hR.out.1, ← HN.out.1, List.take_length]]
      exact ⟨rfl, rfl⟩
/-- a list of numbers that is read -/
def IL (w : World) (v : Value) (zs : List Int) : Prop := ∃ a c, v = .slice a zs.length c ∧ zs.length ≤ c ∧ ∀ j z, zs[j]? = some z → ∃ b o, a = some ⟨b, o, none⟩ ∧ w.cell? ⟨b, o + j, none⟩ = some (.int .i64 z)
/-- how often each lane stands in the list -/
def cnts (zs : List Int) : List Nat := (List.range 64).map fun (i : Nat) => zs.count (i : Int)
theorem cnts_len (zs : List Int) : (cnts zs).length = 64 := by simp [cnts]
theorem cnts_get (zs : List Int) {k : Nat} (h : k < 64) : (ivs (cnts zs))[k]? = some (.int .i64 ((zs.count (k : Int) : Nat) : Int)) := by
  rw [ivs_get (by rw [cnts_len]; exact h)]
  simp [cnts]
theorem cnts_more (zs : List Int) {k : Nat} (h : k < 64) : (ivs (cnts zs)).set k (.int .i64 (((zs.count (k : Int) : Nat) : Int) + 1)) = ivs (cnts (zs ++ [(k : Int)])) := by
  apply List.ext_getElem?
  intro i
  by_cases hi : i < 64
  · rw [cnts_get _ hi, List.getElem?_set]
    by_cases e : k = i
    · subst e
      rw [if_pos rfl, if_pos (by simp [ivs, cnts_len]; exact h), List.count_append]
      simp
    · rw [if_neg e, cnts_get _ hi, List.count_append]
      have : ¬ (k : Int) = (i : Int) := by omega
      simp [this]
  · rw [List.getElem?_eq_none (by simp [ivs, cnts_len]; omega), List.getElem?_eq_none (by simp [ivs, cnts_len]; omega)]
theorem mxl_le {N : Nat} : ∀ {l : List Nat}, (∀ x ∈ l, x ≤ N) → mxl l ≤ N := by
  have key : ∀ (l : List Nat) (m : Nat), m ≤ N → (∀ x ∈ l, x ≤ N) → l.foldl max m ≤ N := by
    intro l
    induction l with
    | nil => intro m hm _; exact hm
    | cons x r ih =>
      intro m hm h
      exact ih (max m x) (by have := h x (by simp); omega) (fun y hy => h y (by simp [hy]))
  exact fun {l} h => key l 0 (Nat.zero_le _) h
/-- what Any says of its list -/
def lnE (S : NS) (zs : List Int) : Int := if 64 < zs.length then 2 else if zs.all (isL S) then (if zs.isEmpty || decide (1 < mxl (cnts zs)) then 1 else 0) else 192
theorem isL_of {S : NS} (k : SOk S) {z : Int} (h : isL S z = true) : ∃ i : Nat, z = (i : Int) ∧ i < 64 ∧ i < S.ls.length := by
  unfold isL at h
  simp only [Bool.and_eq_true, decide_eq_true_eq] at h
  have := k.n
  exact ⟨z.toNat, by omega, by omega, by omega⟩
set_option maxRecDepth 100000 in
set_option maxHeartbeats 2000000 in
theorem lanesError_walk (w : World) (S : NS) (v : Value) (zs : List Int) (h : NOk w S) (k : SOk S) (hI : IL w v zs) : Calls Try.prog 39 #[.pointer (some ⟨S.nb, 0, none⟩), v] w fun e w' => e = .returned (.int .i64 (lnE S zs)) ∧ Up w w' := by
  obtain ⟨a, c, rfl, hc, hcell⟩ := hI
  have HC := Hid.of hcell
  have HN := Hid.of h
  have HK := Hid.of k
  obtain ⟨n, hn⟩ : ∃ n, zs.length = n := ⟨_, rfl⟩
  have HL := Hid.of (And.intro hn trivial)
  rw [hn] at hc ⊢
  clear h k hcell hn
  by_cases h64 : 64 < n
  · have h64z : (64 : Int) < (n : Int) := by omega
    have HE := Hid.of (And.intro (show lnE S zs = 2 by unfold lnE; rw [if_pos (by rw [HL.out.1]; exact h64)]) trivial)
    clear h64
    go_enter Try.func39, Try.ntmps39
    go_wp2
    go_ret
    rw [HE.out.1]
    exact ⟨rfl, Up.refl _⟩
  · have h64z : ¬ (64 : Int) < (n : Int) := by omega
    have hA0 := at_new w 123 (ivs (cnts []))
    have hU0 := (Up.refl w).alloc (.cells (ivs (cnts [])).toArray 123)
    rw [show (ivs (cnts [])).toArray = #[.int .i64 0, .int .i64 0, .int .i64 0, .int .i64 0, .int .i64 0, .int .i64 0, .int .i64 0, .int .i64 0, .int .i64 0, .int .i64 0, .int .i64 0, .int .i64 0, .int .i64 0, .int .i64 0, .int .i64 0, .int .i64 0, .int .i64 0, .int .i64 0, .int .i64 0, .int .i64 0, .int .i64 0, .int .i64 0, .int .i64 0, .int .i64 0, .int .i64 0, .int .i64 0, .int .i64 0, .int .i64 0, .int .i64 0, .int .i64 0, .int .i64 0, .int .i64 0, .int .i64 0, .int .i64 0, .int .i64 0, .int .i64 0, .int .i64 0, .int .i64 0, .int .i64 0, .int .i64 0, .int .i64 0, .int .i64 0, .int .i64 0, .int .i64 0, .int .i64 0, .int .i64 0, .int .i64 0, .int .i64 0, .int .i64 0, .int .i64 0, .int .i64 0, .int .i64 0, .int .i64 0, .int .i64 0, .int .i64 0, .int .i64 0, .int .i64 0, .int .i64 0, .int .i64 0, .int .i64 0, .int .i64 0, .int .i64 0, .int .i64 0, .int .i64 0] from rfl] at hA0 hU0
    have HA0 := Hid.of hA0
    have HU0 := Hid.of hU0
    clear hA0 hU0
    go_enter Try.func39, Try.ntmps39
    go_wp2
    generalize w.alloc (.cells #[.int .i64 0, .int .i64 0, .int .i64 0, .int .i64 0, .int .i64 0, .int .i64 0, .int .i64 0, .int .i64 0, .int .i64 0, .int .i64 0, .int .i64 0, .int .i64 0, .int .i64 0, .int .i64 0, .int .i64 0, .int .i64 0, .int .i64 0, .int .i64 0, .int .i64 0, .int .i64 0, .int .i64 0, .int .i64 0, .int .i64 0, .int .i64 0, .int .i64 0, .int .i64 0, .int .i64 0, .int .i64 0, .int .i64 0, .int .i64 0, .int .i64 0, .int .i64 0, .int .i64 0, .int .i64 0, .int .i64 0, .int .i64 0, .int .i64 0, .int .i64 0, .int .i64 0, .int .i64 0, .int .i64 0, .int .i64 0, .int .i64 0, .int .i64 0, .int .i64 0, .int .i64 0, .int .i64 0, .int .i64 0, .int .i64 0, .int .i64 0, .int .i64 0, .int .i64 0, .int .i64 0, .int .i64 0, .int .i64 0, .int .i64 0, .int .i64 0, .int .i64 0, .int .i64 0, .int .i64 0, .int .i64 0, .int .i64 0, .int .i64 0, .int .i64 0] 123) = W0 at *
    generalize hb : w.heap.size = b0 at *
    go_loopw [7, 13] (fun _ v13 wr => ∃ j : Nat, v13 = .int .i64 (j : Int) ∧ j ≤ n ∧ Hid ((zs.take j).all (isL S) = true ∧ At wr b0 123 (ivs (cnts (zs.take j))) ∧ Up w wr)) (fun _ v13 _ => n - (intOf v13).toNat)
    case atStart => exact ⟨0, rfl, by omega, Hid.of ⟨rfl, HA0.out, HU0.out⟩⟩
    case round =>
      clear HA0 HU0
      obtain ⟨j, rfl, hjn, hR⟩ := hrel
      have HR := Hid.of hR.out
      clear hR
      by_cases hlt : j < n
      · have hltz : (j : Int) < (n : Int) := by omega
        have hcz : (n : Int) ≤ (c : Int) := by omega
        have hjw : IntKind.i64.wrap ((j : Int) + 1) = (j : Int) + 1 := by rw [IntKind.wrap_i64]; omega
        have hj : j < zs.length := by rw [HL.out.1]; exact hlt
        obtain ⟨z, hz⟩ : ∃ z, zs[j] = z := ⟨_, rfl⟩
        obtain ⟨b, o, rfl, c0⟩ := HC.out j z (by rw [List.getElem?_eq_getElem hj, hz])
        have c1 := HR.out.2.2.cell c0
        have HT := Hid.of (And.intro (show zs.take (j + 1) = zs.take j ++ [z] by rw [List.take_succ_eq_append_getElem hj, hz]) (hz ▸ List.getElem_mem hj : z ∈ zs))
        have hH := has_walk wr S z (HN.out.up HR.out.2.2)
        clear hz c0
        cases hl : isL S z with
        | false =>
          rw [hl] at hH
          have HE := Hid.of (And.intro (show lnE S zs = 192 by
            unfold lnE
            rw [if_neg (by rw [HL.out.1]; exact h64), if_neg]
            intro h
            have := List.all_eq_true.1 h z HT.out.2
            rw [hl] at this
            cases this) trivial)
          clear hl
          go_wp2_with fail
          refine hH.mono ?_
          rintro e w9 ⟨rfl, h9⟩
          obtain rfl := h9.symm
          clear h9 hH
          dsimp only
          go_wp2
          go_ret
          rw [HE.out.1]
          exact ⟨rfl, HR.out.2.2⟩
        | true =>
          rw [hl] at hH
          obtain ⟨i, rfl, hi, _⟩ := isL_of HK.out hl
          have hiz : (i : Int) < 64 := by omega
          have c2 := HR.out.2.1.cell (cnts_get (zs.take j) hi)
          have t2 := HR.out.2.1.thaw i
          have hcn : ((zs.take j).count (i : Int)) ≤ 64 := by
            refine Nat.le_trans List.count_le_length ?_
            rw [List.length_take]
            omega
          have hcw : IntKind.i64.wrap ((((zs.take j).count (i : Int) : Nat) : Int) + 1) = (((zs.take j).count (i : Int) : Nat) : Int) + 1 := by rw [IntKind.wrap_i64]; omega
          have hN := HR.out.2.1.set i (.int .i64 ((((zs.take j).count (i : Int) : Nat) : Int) + 1))
          rw [cnts_more _ hi, ← HT.out.1] at hN
          have HX := Hid.of (show (zs.take (j + 1)).all (isL S) = true ∧ At _ b0 123 (ivs (cnts (zs.take (j + 1)))) ∧ Up w _ from ⟨by rw [HT.out.1, List.all_append, HR.out.1]; simp [hl], hN, HR.out.2.2.by (grown_at wr b0 i (.int .i64 ((((zs.take j).count (i : Int) : Nat) : Int) + 1))) (fun g hg => by have := Option.some.inj hg; omega)⟩)
          clear hl hN hcn
          go_wp2_with fail
          refine hH.mono ?_
          rintro e w9 ⟨rfl, h9⟩
          obtain rfl := h9.symm
          clear h9 hH
          dsimp only
          go_wp2
          go_roundw
          case rel => exact ⟨j + 1, by simp, by omega, HX⟩
          case measure => simp [intOf]; omega
      · have hltz : ¬ (j : Int) < (n : Int) := by omega
        obtain rfl : j = n := by omega
        have hT : zs.take j = zs := by rw [← HL.out.1, List.take_length]
        rw [hT] at HR
        by_cases hn0 : j = 0
        · subst hn0
          have HE := Hid.of (And.intro (show lnE S zs = 1 by
            unfold lnE
            rw [if_neg (by rw [HL.out.1]; exact h64), if_pos HR.out.1, List.eq_nil_of_length_eq_zero HL.out.1]
            rfl) trivial)
          go_wp2
          go_ret
          rw [HE.out.1]
          exact ⟨rfl, HR.out.2.2⟩
        · have hn0z : ¬ (j : Int) = 0 := by omega
          have hM := Max_walk wr b0 123 (cnts zs) HR.out.2.1 (by rw [cnts_len]; omega) (by rw [cnts_len]; omega)
          rw [cnts_len] at hM
          have he : lnE S zs = if 1 < mxl (cnts zs) then 1 else 0 := by
            unfold lnE
            rw [if_neg (by rw [HL.out.1]; exact h64), if_pos HR.out.1]
            have : zs.isEmpty = false := by
              cases hz : zs with
              | nil => rw [hz] at HL; exact absurd HL.out.1.symm hn0
              | cons => rfl
            rw [this, Bool.false_or]
            simp
          have HE := Hid.of (And.intro he trivial)
          clear he hT
          generalize mxl (cnts zs) = mx at *
          go_wp2_with fail
          refine hM.mono ?_
          rintro e w9 ⟨rfl, h9⟩
          obtain rfl := h9.symm
          clear h9 hM
          dsimp only
          by_cases h1 : 1 < mx
          · have h1z : (1 : Int) < (mx : Int) := by omega
            rw [if_pos h1] at HE
            clear h1
            go_wp2
            go_ret
            rw [HE.out.1]
            exact ⟨rfl, HR.out.2.2⟩
          · have h1z : ¬ (1 : Int) < (mx : Int) := by omega
            rw [if_neg h1] at HE
            clear h1
            go_wp2
            go_ret
            rw [HE.out.1]
            exact ⟨rfl, HR.out.2.2⟩
/-- numbers of lanes that may be asked for together -/
structure Lok (w : World) (S : NS) (v : Value) (is : List Nat) : Prop where
  ln : Lns w S v is
  nd : ∀ i, is.count i ≤ 1
theorem Lns.il {w : World} {S : NS} {v : Value} {is : List Nat} (h : Lns w S v is) : IL w v (is.map fun (i : Nat) => (i : Int)) := by
  obtain ⟨b, o, c, rfl, hc, hx⟩ := h.sh
  refine ⟨some ⟨b, o, none⟩, c, by rw [List.length_map], by rw [List.length_map]; exact hc, fun j z hz => ⟨b, o, rfl, ?_⟩⟩
  rw [List.getElem?_map] at hz
  cases hi : is[j]? with
  | none => rw [hi] at hz; cases hz
  | some i =>
    rw [hi] at hz
    obtain rfl := Option.some.inj hz
    exact hx j i hi
theorem lnE_ok {w : World} {S : NS} {v : Value} {is : List Nat} (h : Lok w S v is) : lnE S (is.map fun (i : Nat) => (i : Int)) = 0 := by
  have h1 := h.ln.le
  unfold lnE
  rw [if_neg (by rw [List.length_map]; omega), if_pos, if_neg]
  · have hne : (is.map fun (i : Nat) => (i : Int)).isEmpty = false := by
      cases hi : is with
      | nil => exact absurd hi h.ln.ne
      | cons => rfl
    rw [hne, Bool.false_or, decide_eq_true_eq]
    have : mxl (cnts (is.map fun (i : Nat) => (i : Int))) ≤ 1 := mxl_le fun x hx => by
      obtain ⟨i, _, rfl⟩ := List.mem_map.1 hx
      have e : ∀ l : List Nat, (l.map fun (i : Nat) => (i : Int)).count (i : Int) = l.count i := by
        intro l
        induction l with
        | nil => rfl
        | cons y r ih =>
          rw [List.map_cons, List.count_cons, List.count_cons, ih]
          congr 1
          by_cases e : y = i
          · simp [e]
          · have : ¬ (y : Int) = (i : Int) := by omega
            simp [e, this]
      rw [e]
      exact h.nd i
    omega
  · rw [List.all_eq_true]
    intro z hz
    obtain ⟨i, hi, rfl⟩ := List.mem_map.1 hz
    have := h.ln.lt i hi
    unfold isL
    simp
    omega
set_option maxRecDepth 100000 in
set_option maxHeartbeats 1000000 in
theorem Any_yes (w : World) (S : NS) (v : Value) (is : List Nat) (n : Nat) (h : NOk w S) (k : SOk S) (hL : Lok w S v is) (hv : ∀ g, v.ownBlock = some g → ¬ own S g ∧ g < w.heap.size) (hn : n ≤ 65536) (hnow : S.now ≤ 2305843009213693952) (hbd : S.mn ≤ 1099511627776) :
    Calls Try.prog 20 #[.pointer (some ⟨S.nb, 0, none⟩), v, .int .i64 (n : Int)] w fun e w' => ∃ mv S', e = .returned (.tuple #[.int .i64 ((awA n (abs S) is).1.1 : Int), mv, .int .i64 (awA n (abs S) is).1.2.2]) ∧ Ow w' 0 mv (awA n (abs S) is).1.2.1 ∧ Stp w.heap.size 0 w w' S S' (awA n (abs S) is).2 ∧ S'.ls.map (·.sh) = S.ls.map (·.sh) ∧ Free w S S' mv := by
  have hE := lanesError_walk w S v _ h k hL.ln.il
  rw [lnE_ok hL] at hE
  have HN := Hid.of h
  have HL := Hid.of hL
  have HK := Hid.of k
  have HV := Hid.of hv
  have hM := fun w => mayPass_walk w (n : Int)
  have hmp : (decide ((0 : Int) ≤ (n : Int)) && decide ((n : Int) ≤ 65536)) = true := by simp; omega
  clear h k hL hv
  go_enter Try.func20, Try.ntmps20
  go_wp2_with fail
  refine hE.mono ?_
  rintro e w1 ⟨rfl, u1⟩
  have HU := Hid.of u1
  clear hE u1
  dsimp only
  go_wp2_with fail
  refine (hM w1).mono ?_
  rintro e w9 ⟨rfl, h9⟩
  obtain rfl := h9.symm
  clear h9 hM
  rw [hmp]
  dsimp only
  have hA := await_walk w1 S v is n (HN.out.up HU.out) HK.out ⟨by
    obtain ⟨b, o, c, e, hc, hx⟩ := HL.out.ln.sh
    exact ⟨b, o, c, e, hc, fun j i hi => HU.out.cell (hx j i hi)⟩, HL.out.ln.ne, HL.out.ln.lt, HL.out.ln.le⟩ (fun g hg => ⟨(HV.out g hg).1, Nat.lt_of_lt_of_le (HV.out g hg).2 HU.out.size⟩) hn hnow hbd
  go_wp2_with fail
  refine hA.mono ?_
  rintro e w2 ⟨mv, S', rfl, h1, h2, h3, hfe⟩
  have HO := Hid.of h1
  have HS := Hid.of h2
  have HSH := Hid.of h3
  have HFE := Hid.of (show Free w S S' mv from fun x hx => ⟨(hfe x hx).1.imp id (Nat.le_trans HU.out.size), (hfe x hx).2⟩)
  clear hA h1 h2 h3 hfe
  dsimp only
  go_wp2
  go_ret3
  have hS := HS.out.base HU.out
  exact ⟨_, S', rfl, HO.out, ⟨hS.ok, hS.so, hS.ab, hS.fr, hS.no, fun x hx => (hS.nr x hx).imp id (Nat.le_trans HU.out.size), hS.nb, hS.mn, hS.ap⟩, HSH.out, HFE.out⟩
end Go.Proofs.Ytdlfkdehfenemaa
