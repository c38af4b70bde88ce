import Derived.Test.YtdlfkdehfenemaaGd
namespace Go.Proofs.Ytdlfkdehfenemaa
open Go.RowKit Go.Conc TextNum
/-- a message as it is given -/
structure Rw where
  g : Int
  i : Int
  a : Option Addr
  c : Nat
  d : List UInt8
  k : Int
  n : Int
def rwc (q : Rw) : List Value := [.int .i64 q.g, .int .i64 q.i, .slice q.a q.d.length q.c, .int .i64 q.k, .int .i64 q.n]
structure RwL (w : World) (a : Option Addr) (l : List Rw) : Prop where
  cells : ∀ i (h : i < l.length), ∃ b off, a = some ⟨b, off, none⟩ ∧ w.rangeAt b (off + i * 5) (rwc l[i])
  ok : ∀ q ∈ l, Sb w (.slice q.a q.d.length q.c) q.d
theorem RwL.up {w w' : World} {a : Option Addr} {l : List Rw} (h : RwL w a l) (u : Up w w') : RwL w' a l :=
  ⟨fun i hi => by obtain ⟨b, off, e, k⟩ := h.cells i hi; exact ⟨b, off, e, range_up' k u⟩, fun q hq => (h.ok q hq).up u⟩
def sns (l : List Sn) : List Value := l.flatMap snc
theorem sns_snoc (l : List Sn) (q : Sn) : sns (l ++ [q]) = sns l ++ snc q := by simp [sns]
theorem sns_one (l : List Sn) : ∀ u ∈ sns l, u.oneCell' = true := fun u hu => by
  obtain ⟨q, _, h⟩ := List.mem_flatMap.1 hu
  simp only [snc, List.mem_cons, List.not_mem_nil, or_false] at h
  rcases h with rfl | rfl | rfl | rfl | rfl <;> rfl
theorem sns_len (l : List Sn) : (sns l).length = l.length * 5 := by
  induction l with
  | nil => rfl
  | cons q r ih =>
    rw [show sns (q :: r) = snc q ++ sns r from rfl, List.length_append, ih]
    simp [snc]
    omega
theorem sns_get : ∀ (l : List Sn) {i : Nat} (hi : i < l.length) (j : Nat) (v : Value), (snc l[i])[j]? = some v → (sns l)[i * 5 + j]? = some v
  | g :: r, 0, _, j, v, hv => by
    have hv2 : (snc g)[j]? = some v := hv
    rw [show sns (g :: r) = snc g ++ sns r from rfl, Nat.zero_mul, Nat.zero_add, List.getElem?_append_left (List.getElem?_eq_some_iff.1 hv2).1]
    exact hv2
  | g :: r, i + 1, hi, j, v, hv => by
    have ih := sns_get r (i := i) (by simpa using hi) j v hv
    have hl : (snc g).length = 5 := rfl
    rw [show sns (g :: r) = snc g ++ sns r from rfl, List.getElem?_append_right (by rw [hl]; omega), hl, show (i + 1) * 5 + j - 5 = i * 5 + j by omega]
    exact ih
/-- a list of messages of one's own -/
abbrev SO (w : World) (B : Nat) (v : Value) (l : List Sn) : Prop := w.ownsRow B 65 5 v l.length (sns l)
theorem infoSent : (Try.prog.info? 65).map (fun i => (i.zero, i.size, i.bytes)) = some (some (.agg #[.int .i64 0, .int .i64 0, .slice none 0 0, .int .i64 0, .int .i64 0]), 5, 56) := by kernel_rfl
/-- what is known of a message that was tamed -/
abbrev Tm (w : World) (q : Sn) : Prop := SnOk w q ∧ 0 ≤ q.n ∧ q.n < 40
theorem SO.shape {w : World} {B : Nat} {v : Value} {l : List Sn} (h : SO w B v l) : ∃ a c, v = .slice a l.length c ∧ (a = none → l = []) ∧ ∀ ad, a = some ad → ∃ g, ad = ⟨g, 0, none⟩ := by
  rcases h.2 with ⟨rfl, h0⟩ | ⟨g, cap, cur, rfl, _, hg, hnc, hcm, _, _⟩
  · have : l = [] := List.eq_nil_of_length_eq_zero h0
    subst this
    exact ⟨none, 0, rfl, fun _ => rfl, fun _ e => by cases e⟩
  · exact ⟨_, cap, rfl, fun e => (by cases e), fun ad e => ⟨g, (Option.some.inj e).symm⟩⟩
theorem SO.read {w w0 : World} {B : Nat} {a : Option Addr} {c : Nat} {l : List Sn} (h : SO w B (.slice a l.length c) l) (hu : Up w0 w) (ht : ∀ q ∈ l, SnOk w0 q) : SnL w a l := by
  refine ⟨fun i hi => ?_, fun q hq => (ht q hq).up hu⟩
  have hc := fun g hg => World.ownsRow.cells h (g := g) hg
  obtain ⟨a', c', e, h1, h2⟩ := h.shape
  injection e with e1 e2 e3
  subst e1 e3
  cases a with
  | none => have := h1 rfl; subst this; cases hi
  | some ad =>
    obtain ⟨g, rfl⟩ := h2 ad rfl
    refine ⟨g, 0, rfl, fun j v hv => ?_⟩
    have := hc g rfl (i * 5 + j) v (sns_get l hi j v hv)
    rw [Addr.add_lit] at this
    rw [show 0 + i * 5 + j = 0 + (i * 5 + j) by omega]
    exact this
set_option maxRecDepth 100000 in
set_option maxHeartbeats 4000000 in
theorem script_walk (w w0 : World) (a : Option Addr) (c : Nat) (l : List Rw) (h : RwL w a l) (h0 : ∀ q ∈ l, Sb w0 (.slice q.a q.d.length q.c) q.d) :
    Calls Try.prog 26 #[.slice a l.length c] w fun e w' => ∃ v, e = .returned v ∧ ∃ ss, SO w' w.heap.size v ss ∧ ss.length ≤ 24 ∧ (∀ q ∈ ss, Tm w0 q) ∧ Up w w' := by
  obtain ⟨i0, hi0, hz0, hz1, hz2⟩ := info_parts infoSent
  have HSL := Hid.of h
  have HS0 := Hid.of h0
  obtain ⟨n, hn⟩ : ∃ n, l.length = n := ⟨_, rfl⟩
  have HNN := Hid.of (And.intro hn trivial)
  rw [hn]
  clear h h0 hn
  go_enter Try.func26, Try.ntmps26
  go_wp2
  go_loopw [3, 4] (fun v3 v4 wr => ∃ j : Nat, v4 = .int .i64 (j : Int) ∧ j ≤ n ∧ j ≤ 24 ∧ Hid (∃ ss, SO wr w.heap.size v3 ss ∧ ss.length = j ∧ (∀ q ∈ ss, Tm w0 q) ∧ Up w wr)) (fun _ v4 _ => n - (intOf v4).toNat)
  case atStart => exact ⟨0, rfl, by omega, by omega, Hid.of ⟨[], World.ownsRow_nil _ _ _ _, rfl, fun q hq => (by cases hq), Up.refl _⟩⟩
  case round =>
    obtain ⟨j, rfl, hjn, hj24, hR⟩ := hrel
    by_cases hlt : j < n
    · have hltz : (j : Int) < (n : Int) := by omega
      by_cases hlt2 : j < 24
      · have hltz2 : (j : Int) < 24 := by omega
        have hjw : IntKind.i64.wrap ((j : Int) + 1) = (j : Int) + 1 := by rw [IntKind.wrap_i64]; omega
        have hj : j < l.length := by rw [HNN.out.1]; exact hlt
        obtain ⟨ss, hso, hsl, hst, hsu⟩ := hR.out
        obtain ⟨b, off, rfl, hrg⟩ := (HSL.out.up hsu).cells j hj
        obtain ⟨q, hq⟩ : ∃ q, l[j] = q := ⟨_, rfl⟩
        rw [hq] at hrg
        have HRG := Hid.of hrg
        have HSB := Hid.of ((HSL.out.ok q (hq ▸ List.getElem_mem hj)).up hsu)
        have HSB0 := Hid.of (HS0.out q (hq ▸ List.getElem_mem hj))
        have HSO := Hid.of hso
        have HSLN := Hid.of (And.intro hsl trivial)
        have HST := Hid.of hst
        have HSU := Hid.of hsu
        clear hR hso hsl hst hsu hrg hq
        go_wp2_with (with_reducible show wpList _ _ _ ({ dst := _, op := Op.load 65 _, type := _, pos := _, after := _, guard := _ } :: _) _ _; refine Shut.out ?_)
        show wpList _ _ _ _ _ _
        refine wpList_load_mid rfl 65 _ rfl b (off + j * 5) rfl (rwc q) _ HRG.out Try.underlying65 rfl (by kernel_rfl) ?_
        simp only [Act.put, List.setIfInBounds_toArray, List.set_cons_zero, List.set_cons_succ]
        go_wp2_with fail
        refine (tamed_walk wr w0 q.g q.i q.k q.n q.a q.c q.d HSB.out HSB0.out).mono ?_
        rintro e w1 ⟨s, rfl, hs1, hs2, u1⟩
        obtain ⟨sg, si, sa, sc, sd, sk, sn⟩ := s
        have HS1 := Hid.of hs1
        have HS2 := Hid.of hs2
        have HU1 := Hid.of u1
        clear hs1 hs2 u1
        simp only [snc]
        have HU2 := Hid.of ((Up.refl w1).alloc (.cells #[.int .i64 (sg : Int), .int .i64 (si : Int), .slice sa sd.length sc, .int .i64 sk, .int .i64 sn] 65))
        have HA2 := Hid.of (at_new w1 65 (snc ⟨sg, si, sa, sc, sd, sk, sn⟩))
        go_wp2_with (with_reducible show wpList _ _ _ ({ dst := _, op := Op.call { callee := Callee.builtin Builtin.append, args := _, argTypes := _ }, type := _, pos := _, after := _, guard := _ } :: _) _ _; refine Shut.out ?_)
        show wpList _ _ _ _ _ _
        refine wpList_append_own _ rfl _ _ 66 rfl w.heap.size 65 i0 (.agg #[.int .i64 0, .int .i64 0, .slice none 0 0, .int .i64 0, .int .i64 0]) 5 56 Try.underlying66 hi0 hz0 hz1 hz2 rfl (by decide) u3 ss.length (sns ss) rfl (ow_up HSO.out (HU1.out.trans HU2.out)) ⟨w1.heap.size, 0, none⟩ 1 1 (snc ⟨sg, si, sa, sc, sd, sk, sn⟩) rfl rfl (fun j u hu => by rw [Addr.add_lit, Nat.zero_add]; exact HA2.out.cell hu) (fun u hu => sns_one [⟨sg, si, sa, sc, sd, sk, sn⟩] u (by simpa [sns] using hu)) (by have := HSLN.out.1; simp only [maxLen]; omega) (by have := HSLN.out.1; omega) (HSU.out.trans (HU1.out.trans HU2.out)).size ?_
        intro v5 w5 o5 g5 _
        have HN := Hid.of (show ∃ ss, SO w5 w.heap.size v5 ss ∧ ss.length = j + 1 ∧ (∀ q ∈ ss, Tm w0 q) ∧ Up w w5 from ⟨ss ++ [⟨sg, si, sa, sc, sd, sk, sn⟩], by
          rw [SO, sns_snoc, List.length_append]
          exact o5, by rw [List.length_append, HSLN.out.1]; rfl, fun q hq => by
          rcases List.mem_append.1 hq with hq | hq
          · exact HST.out q hq
          · obtain rfl := List.mem_singleton.1 hq
            exact ⟨HS1.out, HS2.out⟩, (HSU.out.trans (HU1.out.trans HU2.out)).by g5 (fun g hg => (HSO.out.lt g hg).1)⟩)
        clear o5 g5
        simp only [Act.put, List.setIfInBounds_toArray, List.set_cons_zero, List.set_cons_succ]
        go_wp2
        go_roundw
        case rel => exact ⟨j + 1, by simp, by omega, by omega, HN⟩
        case measure => simp [intOf]; omega
      · have hltz2 : ¬ (j : Int) < 24 := by omega
        go_wp2
        go_ret
        obtain ⟨ss, h1, h2, h3, h4⟩ := hR.out
        exact ⟨_, rfl, ss, h1, by omega, h3, h4⟩
    · have hltz : ¬ (j : Int) < (n : Int) := by omega
      go_wp2
      go_ret
      obtain ⟨ss, h1, h2, h3, h4⟩ := hR.out
      exact ⟨_, rfl, ss, h1, by omega, h3, h4⟩
end Go.Proofs.Ytdlfkdehfenemaa
