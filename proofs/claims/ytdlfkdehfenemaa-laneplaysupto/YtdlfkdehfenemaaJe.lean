import Derived.Test.YtdlfkdehfenemaaJd
namespace Go.Proofs.Ytdlfkdehfenemaa
open Go.RowKit Go.Conc TextNum
theorem at_new' {w : World} {N : Nat} (hN : w.heap.size = N) (t : TypeId) (cs : List Value) : At (w.alloc (.cells cs.toArray t)) N t cs := hN ▸ at_new w t cs
theorem begun (w : World) (z0 z1 : Int) (v0 v1 : Value) : ∃ W, ((((w.alloc (.cells #[.int .i64 z0, v0] 30)).alloc (.cells #[.int .i64 z1, v1] 30)).alloc (.cells #[.slice none 0 0] 90)).alloc (.cells #[.pointer none, .pointer none, .pointer none, .pointer none, .bool false, .bool false, .pointer (some ⟨w.heap.size + 1 + 1, 0, none⟩)] 40)) = W ∧ Up w W ∧
    At W w.heap.size 30 [.int .i64 z0, v0] ∧ At W (w.heap.size + 1) 30 [.int .i64 z1, v1] ∧ At W (w.heap.size + 1 + 1) 90 [.slice none 0 0] ∧ At W (w.heap.size + 1 + 1 + 1) 40 [.pointer none, .pointer none, .pointer none, .pointer none, .bool false, .bool false, .pointer (some ⟨w.heap.size + 1 + 1, 0, none⟩)] := by
  refine ⟨_, rfl, ((((Up.refl w).alloc _).alloc _).alloc _).alloc _, (at_new w 30 [.int .i64 z0, v0]).up ((((Up.refl _).alloc _).alloc _).alloc _), (at_new' (alloc_size _ _) 30 [.int .i64 z1, v1]).up (((Up.refl _).alloc _).alloc _), (at_new' (by rw [alloc_size, alloc_size]) 90 [.slice none 0 0]).up ((Up.refl _).alloc _), at_new' (by rw [alloc_size, alloc_size, alloc_size]) 40 _⟩
theorem FR.up {w w' : World} {v : Value} {fs : List (Int × Int)} (h : FR w v fs) (u : Up w w') : FR w' v fs := by
  obtain ⟨a, c, h1, h2, h3⟩ := h
  refine ⟨a, c, h1, h2, fun j hj => ?_⟩
  obtain ⟨b, o, h4, h5⟩ := h3 j hj
  exact ⟨b, o, h4, range_up' h5 u⟩
theorem up_fr {T : Nat → Prop} {a b c : World} (h : Up a b) (k : Fr T b c) (hT : ∀ g, T g → a.heap.size ≤ g) : Up a c :=
  ⟨k.os.trans h.os, k.tape.trans h.tape, k.output.trans h.output, Nat.le_trans h.size k.size, fun j hj => (k.block j (Nat.lt_of_lt_of_le hj h.size) (fun e => by have := hT j e; omega)).trans (h.block j hj)⟩
theorem row_n {w : World} {B n m : Nat} {e : TypeId} {v : Value} {xs : List Value} (h : w.ownsRow B e m v n xs) : ∃ a c, v = .slice a n c ∧ n ≤ c ∧ c ≤ maxLen := by
  rcases h.2 with ⟨rfl, rfl⟩ | ⟨g, cap, cur, rfl, _, _, h1, h2, _⟩
  · exact ⟨_, _, rfl, Nat.le_refl _, Nat.zero_le _⟩
  · exact ⟨_, _, rfl, h1, h2⟩
/-- both lists while the marks are laid behind the first -/
structure MJ (wr w' : World) (mb : Nat) (v u : Value) (fs : List (Int × Int)) (j : Nat) : Prop where
  a : w'.ownsRow wr.heap.size 58 2 v (fs ++ List.replicate j (77, -77)).length ((fs ++ List.replicate j (77, -77)).flatMap fc)
  b : w'.ownsRow wr.heap.size 97 2 u fs.length (fs.flatMap fc)
  m : At w' mb 58 [.int .i64 77, .int .i64 (-77)]
  ne : v.ownBlock ≠ some mb
  bm : wr.heap.size ≤ mb
  up : Up wr w'
theorem MJ.start {wr w1 w2 : World} {va vb : Value} {fs : List (Int × Int)} {o : Obj} (h : FB wr w1 wr.heap.size va vb fs) (hM : At w2 w1.heap.size 58 [.int .i64 77, .int .i64 (-77)]) (g : (w1.alloc o).grownBy w2 (some w1.heap.size)) : MJ wr w2 w1.heap.size va vb fs 0 := by
  have u1 := (Up.refl w1).alloc o
  have n1 : va.ownBlock ≠ some w1.heap.size := fun e => by have := (h.a.lt _ e).2; omega
  have n2 : vb.ownBlock ≠ some w1.heap.size := fun e => by have := (h.b.lt _ e).2; omega
  refine ⟨?_, World.ownsRow.kept (ow_up h.b u1) g (.inr n2), hM, n1, h.up.size, (h.up.trans u1).by g (fun x hx => by have := Option.some.inj hx; have := h.up.size; omega)⟩
  rw [List.replicate_zero, List.append_nil]
  exact World.ownsRow.kept (ow_up h.a u1) g (.inr n1)
theorem MJ.next {wr w1 w2 : World} {mb : Nat} {va vb v5 : Value} {fs : List (Int × Int)} {j : Nat} {o : Obj} (h : MJ wr w1 mb va vb fs j)
    (k : w2.ownsRow wr.heap.size 58 2 v5 ((fs ++ List.replicate j (77, -77)).length + 1) ((fs ++ List.replicate j (77, -77)).flatMap fc ++ [.int .i64 77, .int .i64 (-77)])) (g : (w1.alloc o).grownBy w2 va.ownBlock) (f : Frs (w1.alloc o) va v5) : MJ wr w2 mb v5 vb fs (j + 1) := by
  have u1 := (Up.refl w1).alloc o
  have hmb := lt_of_at h.m
  refine ⟨?_, World.ownsRow.kept (ow_up h.b u1) g (own_off (ow_up h.b u1) (ow_up h.a u1) (by decide)), (h.m.up u1).by g h.ne, fun e => ?_, h.bm, (h.up.trans u1).by g (fun x hx => (h.a.lt x hx).1)⟩
  · rw [List.replicate_succ', ← List.append_assoc, flat_snoc, List.length_append]
    exact k
  · rcases f mb e with e1 | e1
    · exact h.ne e1
    · rw [alloc_size] at e1; omega
theorem MJ.shape {wr w1 : World} {mb : Nat} {va vb : Value} {fs : List (Int × Int)} (h : MJ wr w1 mb va vb fs 70) : ∃ fb cp, va = .slice (some ⟨fb, 0, none⟩) (fs.length + 70) cp ∧ fs.length + 70 ≤ cp ∧ cp ≤ maxLen := by
  have hl : (fs ++ List.replicate 70 ((77 : Int), (-77 : Int))).length = fs.length + 70 := by rw [List.length_append, List.length_replicate]
  have h1 := h.a.2
  rw [hl] at h1
  rcases h1 with ⟨_, h0⟩ | ⟨g, cap, cur, rfl, _, _, h2, h3, _⟩
  · omega
  · exact ⟨g, cap, rfl, h2, h3⟩
/-- while the list that was handed in is read and written over -/
structure KL (W w' : World) (B fb cp : Nat) (gs : List (Int × Int)) (j : Nat) : Prop where
  a : w'.ownsRow B 58 2 (.slice (some ⟨fb, 0, none⟩) gs.length cp) gs.length ((List.replicate j (1, 0) ++ gs.drop j).flatMap fc)
  fr : Fr (fun x => x = fb) W w'
theorem KL.up' {W w1 w2 : World} {B fb cp : Nat} {gs : List (Int × Int)} {j : Nat} (h : KL W w1 B fb cp gs j) (u : Up w1 w2) : KL W w2 B fb cp gs j := ⟨ow_up h.a u, h.fr.up u⟩
theorem kl_len {gs : List (Int × Int)} {j : Nat} (hj : j ≤ gs.length) : (List.replicate j ((1 : Int), (0 : Int)) ++ gs.drop j).length = gs.length := by
  rw [List.length_append, List.length_replicate, List.length_drop]; omega
theorem kl_set {gs : List (Int × Int)} {j : Nat} (hj : j < gs.length) : (List.replicate j ((1 : Int), (0 : Int)) ++ gs.drop j).set j (1, 0) = List.replicate (j + 1) (1, 0) ++ gs.drop (j + 1) := by
  rw [List.set_append, if_neg (by rw [List.length_replicate]; omega), List.length_replicate, Nat.sub_self, List.drop_eq_getElem_cons hj, List.set_cons_zero, List.replicate_succ', List.append_assoc]
  rfl
theorem kl_get {gs : List (Int × Int)} {j : Nat} (hj : j < gs.length) {q : Int × Int} (hq : gs[j] = q) (h : j < (List.replicate j ((1 : Int), (0 : Int)) ++ gs.drop j).length) : (List.replicate j ((1 : Int), (0 : Int)) ++ gs.drop j)[j] = q := by
  rw [List.getElem_append_right (by rw [List.length_replicate]; omega)]
  simp [hq]
theorem KL.row {W w1 : World} {B fb cp : Nat} {gs : List (Int × Int)} {j : Nat} (h : KL W w1 B fb cp gs j) (hj : j ≤ gs.length) : w1.ownsRow B 58 2 (.slice (some ⟨fb, 0, none⟩) (List.replicate j ((1 : Int), (0 : Int)) ++ gs.drop j).length cp) (List.replicate j ((1 : Int), (0 : Int)) ++ gs.drop j).length ((List.replicate j (1, 0) ++ gs.drop j).flatMap fc) := by
  rw [kl_len hj]; exact h.a
theorem KL.get {W w1 : World} {B fb cp : Nat} {gs : List (Int × Int)} {j : Nat} (h : KL W w1 B fb cp gs j) (hj : j < gs.length) {q : Int × Int} (hq : gs[j] = q) : w1.rangeAt fb (j * 2) (fc q) := by
  obtain ⟨g, e, _, hr⟩ := row_get (h.row (Nat.le_of_lt hj)) (j := j) (by rw [kl_len (Nat.le_of_lt hj)]; exact hj)
  obtain rfl : fb = g := by injection e with e; injection e
  rw [kl_get hj hq] at hr
  exact hr
theorem KL.there {W w1 : World} {B fb cp : Nat} {gs : List (Int × Int)} {j : Nat} (h : KL W w1 B fb cp gs j) (hj : j < gs.length) : w1.there fb (j * 2) 2 := (row_set (h.row (Nat.le_of_lt hj)) (j := j) (by rw [kl_len (Nat.le_of_lt hj)]; exact hj) (1, 0)).1
theorem KL.next {W w1 : World} {B fb cp : Nat} {gs : List (Int × Int)} {j : Nat} (h : KL W w1 B fb cp gs j) (hj : j < gs.length) : KL W (w1.setCells fb (j * 2) [.int .i64 1, .int .i64 0]) B fb cp gs (j + 1) := by
  have h2 := (row_set (h.row (Nat.le_of_lt hj)) (j := j) (by rw [kl_len (Nat.le_of_lt hj)]; exact hj) (1, 0)).2
  rw [kl_set hj, kl_len (Nat.le_of_lt hj)] at h2
  exact ⟨h2, h.fr.by (grown_sets fb _ _ _) (fun g hg => .inl (Option.some.inj hg).symm)⟩
/-- what both News have made -/
theorem OC.made {w5 w6 : World} {z : Int} {fs : List (Int × Int)} {na ra : Option Addr} {q : Int} {lo : Nat} (hq : newE z fs = q) (hl : lo ≤ w5.heap.size) (hu : Up w5 w6)
    (ha : (q ≠ 0 ∧ na = none) ∨ (q = 0 ∧ ∃ (S : NS) (n : Nat), z = (n : Int) ∧ 1 ≤ n ∧ n ≤ 64 ∧ na = some ⟨S.nb, 0, none⟩ ∧ NF w5 lo w5.heap.size S n fs))
    (hr : (q ≠ 0 ∧ ra = none) ∨ (q = 0 ∧ ∃ (n : Nat) (nb : Nat) (fv wv sv : Value), z = (n : Int) ∧ ra = some ⟨nb, 0, none⟩ ∧ RN w6 w5.heap.size w6.heap.size nb fv wv sv fs n)) :
    (na = none ∧ ra = none ∧ OC w6 lo w6.heap.size z fs none none false) ∨ ∃ x y, na = some x ∧ ra = some y ∧ OC w6 lo w6.heap.size z fs (some x) (some y) true := by
  rcases ha with ⟨h1, h2⟩ | ⟨h1, S, n, hz, n1, n2, h2, hN⟩
  · rcases hr with ⟨_, h3⟩ | ⟨h3, _⟩
    · exact .inl ⟨h2, h3, .inl ⟨rfl, by rw [hq]; exact h1, rfl, rfl⟩⟩
    · exact (h1 h3).elim
  · rcases hr with ⟨h3, _⟩ | ⟨_, n', nb, fv, wv, sv, hz', h3, hR⟩
    · exact (h3 h1).elim
    · obtain rfl : n = n' := by omega
      have hs := hu.size
      exact .inr ⟨_, _, h2, h3, .inr ⟨rfl, S, n, nb, fv, wv, sv, hz, n1, n2, rfl, rfl, ⟨hN.ok.up hu, hN.so, hN.ab, hN.mn, fun x hx => ⟨(hN.ow x hx).1, by have := (hN.ow x hx).2; omega⟩, fun x hx => ⟨(hN.rd x hx).1, by have := (hN.rd x hx).2; omega⟩⟩,
        ⟨hR.bx, ow_base hR.fr hl, ow_base hR.wo hl, ow_base hR.so hl, Nat.le_trans hl hR.lo, hR.hb, hR.hf, hR.hw, hR.hs⟩⟩⟩
abbrev PS (bb : Nat) (a a' r r' : Option Addr) (on on' : Bool) : List Value := [.pointer a, .pointer a', .pointer r, .pointer r', .bool on, .bool on', .pointer (some ⟨bb, 0, none⟩)]
structure B0 (w wr : World) (pb bb tb : Nat) (ps ts : List Value) : Prop where
  p : At wr pb 40 ps
  b : At wr bb 90 [.slice none 0 0]
  t : At wr tb 91 ts
  pw : w.heap.size ≤ pb
  bw : w.heap.size ≤ bb
  tw : w.heap.size ≤ tb
  up : Up w wr
theorem B0.up' {w w1 w2 : World} {pb bb tb : Nat} {ps ts : List Value} (h : B0 w w1 pb bb tb ps ts) (u : Up w1 w2) : B0 w w2 pb bb tb ps ts := ⟨h.p.up u, h.b.up u, h.t.up u, h.pw, h.bw, h.tw, h.up.trans u⟩
theorem B0.set {w w1 : World} {pb bb tb : Nat} {ps ts : List Value} (h : B0 w w1 pb bb tb ps ts) (i : Nat) (v : Value) : B0 w (w1.setCell ⟨pb, i, none⟩ v) pb bb tb (ps.set i v) ts :=
  ⟨h.p.set i v, h.b.by (grown_at w1 pb i v) (fun e => h.p.ne h.b (by decide) (Option.some.inj e)), h.t.by (grown_at w1 pb i v) (fun e => h.p.ne h.t (by decide) (Option.some.inj e)), h.pw, h.bw, h.tw, h.up.by (grown_at w1 pb i v) (fun g hg => by have := Option.some.inj hg; have := h.pw; omega)⟩
theorem OC.set {w : World} {lo hi pb i : Nat} {z : Int} {fs : List (Int × Int)} {a r : Option Addr} {on : Bool} (h : OC w lo hi z fs a r on) (hp : pb < lo) (v : Value) : OC (w.setCell ⟨pb, i, none⟩ v) lo hi z fs a r on :=
  h.fr ((Fr.refl (fun x => x = pb) w).by (grown_at w pb i v) (fun g hg => .inl (Option.some.inj hg).symm)) (fun g hg => by subst hg; exact .inl hp)
theorem set_size (w : World) (p : Addr) (v : Value) : (w.setCell p v).heap.size = w.heap.size := by simp
def BE (w w' : World) (pb : Nat) (z0 : Int) (f0 : List (Int × Int)) (z1 : Int) (f1 : List (Int × Int)) : Prop :=
  ∃ bb tb ts a r on lo hi a' r' on' lo' hi', B0 w w' pb bb tb (PS bb a a' r r' on on') ts ∧ OC w' lo hi z0 f0 a r on ∧ OC w' lo' hi' z1 f1 a' r' on' ∧ pb < lo ∧ bb < lo ∧ hi ≤ lo' ∧ hi' ≤ w'.heap.size ∧ pb < lo' ∧ bb < lo'
set_option maxRecDepth 100000 in
set_option maxHeartbeats 16000000 in
theorem begin_walk (w : World) (z0 z1 : Int) (v0 v1 : Value) (f0 f1 : List (Int × Int)) (h0 : FR w v0 f0) (h1 : FR w v1 f1) (l0 : f0.length * 16 ≤ 140737488351232) (l1 : f1.length * 16 ≤ 140737488351232) :
    Calls Try.prog 14 #[.agg #[.int .i64 z0, v0], .agg #[.int .i64 z1, v1]] w fun e w' => ∃ pb, e = .returned (.tuple #[.pointer (some ⟨pb, 0, none⟩), .bool true]) ∧ BE w w' pb z0 f0 z1 f1 := by
  obtain ⟨ia, iaa, iab, iac, iad⟩ := info_parts infoFate
  obtain ⟨s0, c0, rfl, _, _⟩ := id h0
  obtain ⟨s1, c1, rfl, _, _⟩ := id h1
  obtain ⟨n0, hn0⟩ : ∃ n, f0.length = n := ⟨_, rfl⟩
  obtain ⟨n1, hn1⟩ : ∃ n, f1.length = n := ⟨_, rfl⟩
  rw [hn0] at h0 l0 ⊢
  rw [hn1] at h1 l1 ⊢
  have HF0 := Hid.of h0
  have HF1 := Hid.of h1
  have HN0 := Hid.of (And.intro hn0 trivial)
  have HN1 := Hid.of (And.intro hn1 trivial)
  clear h0 h1 hn0 hn1
  obtain ⟨W, hW, hUW, hA0, hA1, hA2, hA3⟩ := begun w z0 z1 (.slice s0 n0 c0) (.slice s1 n1 c1)
  have HW := Hid.of hW
  have HUW := Hid.of hUW
  have HA0 := Hid.of hA0
  have HA1 := Hid.of hA1
  have HA2 := Hid.of hA2
  have HA3 := Hid.of hA3
  clear hW hUW hA0 hA1 hA2 hA3
  go_enter Try.func14, Try.ntmps14
  go_wp2_with (with_reducible show wpList _ _ _ ({ dst := _, op := Op.load 30 _, type := _, pos := _, after := _, guard := _ } :: _) _ _; refine Shut.out ?_)
  show wpList _ _ _ _ _ _
  rw [HW.out]
  clear HW
  have hpb : w.heap.size ≤ w.heap.size + 1 + 1 + 1 := by omega
  have hbb : w.heap.size ≤ w.heap.size + 1 + 1 := by omega
  generalize w.heap.size + 1 + 1 + 1 = pb at *
  generalize w.heap.size + 1 + 1 = bb at *
  refine wpList_load_mid rfl 30 _ rfl w.heap.size 0 rfl [.int .i64 z0, .slice s0 n0 c0] _ HA0.out.range Try.underlying30 rfl (by kernel_rfl) ?_
  simp only [Act.put, List.setIfInBounds_toArray, List.set_cons_zero, List.set_cons_succ]
  refine wpList_load_mid rfl 30 _ rfl (w.heap.size + 1) 0 rfl [.int .i64 z1, .slice s1 n1 c1] _ HA1.out.range Try.underlying30 rfl (by kernel_rfl) ?_
  simp only [Act.put, List.setIfInBounds_toArray, List.set_cons_zero, List.set_cons_succ]
  clear HA0 HA1
  have HT0 := Hid.of (at_new W 91 [.int .i64 0, .slice none 0 0, .int .i64 0, .slice none 0 0])
  have HT1 := Hid.of ((Up.refl W).alloc (.cells #[.int .i64 0, .slice none 0 0, .int .i64 0, .slice none 0 0] 91))
  go_wp2_with (with_reducible show wpList _ _ _ ({ dst := _, op := Op.store 91 _ _, type := _, pos := _, after := _, guard := _ } :: _) _ _; refine Shut.out ?_)
  show wpList _ _ _ _ _ _
  refine wpList_store_at rfl 91 _ _ rfl W.heap.size HT0.out [.int .i64 z0, .slice s0 n0 c0, .int .i64 z1, .slice s1 n1 c1] rfl rfl rfl (by kernel_rfl) (by simp [Value.oneCell']) ?_
  intro W2 hT gT
  have HB0 := Hid.of (show B0 w W2 pb bb W.heap.size (PS bb none none none none false false) [.int .i64 z0, .slice s0 n0 c0, .int .i64 z1, .slice s1 n1 c1] from
    ⟨(HA3.out.up HT1.out).by gT (fun e => by have := lt_of_at HA3.out; have := Option.some.inj e; omega), (HA2.out.up HT1.out).by gT (fun e => by have := lt_of_at HA2.out; have := Option.some.inj e; omega), hT, hpb, hbb, HUW.out.size, (HUW.out.trans HT1.out).by gT (fun g hg => by have := Option.some.inj hg; have := HUW.out.size; omega)⟩)
  clear hT gT HT0 HT1 HA2 HA3 HUW
  generalize W.heap.size = tb at *
  simp only [Act.put]
  go_wp2
  go_loopw [8, 9, 10, 11, 12, 13, 14, 15, 16, 17, 18] (fun v8 _ _ _ _ _ _ _ _ _ _ wr =>
      (v8 = .int .i64 0 ∧ Hid (B0 w wr pb bb tb (PS bb none none none none false false) [.int .i64 z0, .slice s0 n0 c0, .int .i64 z1, .slice s1 n1 c1])) ∨
      (v8 = .int .i64 1 ∧ Hid (∃ a r on lo hi, B0 w wr pb bb tb (PS bb a none r none on false) [.int .i64 z0, .slice s0 n0 c0, .int .i64 z1, .slice s1 n1 c1] ∧ OC wr lo hi z0 f0 a r on ∧ pb < lo ∧ bb < lo ∧ hi ≤ wr.heap.size)) ∨
      (v8 = .int .i64 2 ∧ Hid (BE w wr pb z0 f0 z1 f1))) (fun v8 _ _ _ _ _ _ _ _ _ _ _ => 2 - (intOf v8).toNat)
  case atStart => exact .inl ⟨rfl, HB0⟩
  case round =>
    clear HB0
    obtain ⟨W, hW⟩ : ∃ x, x = wr := ⟨_, rfl⟩
    subst hW
    rcases hrel with ⟨rfl, HB⟩ | ⟨rfl, HR⟩ | ⟨rfl, HR⟩
    · skip
      have HCT := HB.out.t.cell (i := 1) rfl
      have hFt := fates_walk W (.slice s0 n0 c0) f0 (HF0.out.up HB.out.up) (by rw [HN0.out.1]; exact l0)
      go_wp2_with fail
      refine hFt.mono ?_
      rintro e w1 ⟨va, vb, rfl, hFB⟩
      have HFB := Hid.of hFB
      clear hFB hFt HCT
      dsimp only
      have HM0 := Hid.of (at_new w1 58 [.int .i64 0, .int .i64 0])
      go_wp2_with (with_reducible show wpList _ _ _ ({ dst := _, op := Op.store 58 _ _, type := _, pos := _, after := _, guard := _ } :: _) _ _; refine Shut.out ?_)
      show wpList _ _ _ _ _ _
      refine wpList_store_at rfl 58 _ _ rfl w1.heap.size HM0.out [.int .i64 77, .int .i64 (-77)] rfl rfl rfl (by kernel_rfl) (by simp [Value.oneCell']) ?_
      intro w2 hM gM
      have HMJ := Hid.of (MJ.start HFB.out hM gM)
      clear hM gM HM0 HFB
      generalize w1.heap.size = mb at *
      simp only [Act.put]
      go_wp2
      go_loopw [9, 12] (fun v9 v12 w' => ∃ j : Nat, v12 = .int .i64 (j : Int) ∧ j ≤ 70 ∧ Hid (MJ W w' mb v9 vb f0 j)) (fun _ v12 _ => 70 - (intOf v12).toNat)
      case atStart => exact ⟨0, rfl, by omega, HMJ⟩
      case round =>
        clear HMJ
        obtain ⟨j, rfl, hj70, HK⟩ := hrel
        by_cases hlt : j < 70
        · have hltz : (j : Int) < 70 := by omega
          have hjw : IntKind.i64.wrap ((j : Int) + 1) = (j : Int) + 1 := by rw [IntKind.wrap_i64]; omega
          have HLN := Hid.of (show (f0 ++ List.replicate j ((77 : Int), (-77 : Int))).length = n0 + j by rw [List.length_append, List.length_replicate, HN0.out.1])
          go_wp2_with (with_reducible show wpList _ _ _ ({ dst := _, op := Op.load 58 _, type := _, pos := _, after := _, guard := _ } :: _) _ _; refine Shut.out ?_)
          show wpList _ _ _ _ _ _
          refine wpList_load_mid rfl 58 _ rfl mb 0 rfl [.int .i64 77, .int .i64 (-77)] _ HK.out.m.range Try.underlying58 rfl (by kernel_rfl) ?_
          simp only [Act.put, List.setIfInBounds_toArray, List.set_cons_zero, List.set_cons_succ]
          have HU2 := Hid.of ((Up.refl wr).alloc (.cells #[.int .i64 77, .int .i64 (-77)] 58))
          have HA2 := Hid.of (at_new wr 58 [.int .i64 77, .int .i64 (-77)])
          go_wp2_with (with_reducible show wpList _ _ _ ({ dst := _, op := Op.call { callee := Callee.builtin Builtin.append, args := _, argTypes := _ }, type := _, pos := _, after := _, guard := _ } :: _) _ _; refine Shut.out ?_)
          show wpList _ _ _ _ _ _
          refine wpList_appFr rfl _ _ 59 rfl W.heap.size 58 ia (.agg #[.int .i64 0, .int .i64 0]) 2 16 Try.underlying59 iaa iab iac iad rfl (by decide) u9 _ _ rfl (ow_up HK.out.a HU2.out) ⟨wr.heap.size, 0, none⟩ 1 1 [.int .i64 77, .int .i64 (-77)] rfl rfl (fun j u hu => by rw [Addr.add_lit, Nat.zero_add]; exact HA2.out.cell hu) (fun u hu => by
            simp only [List.mem_cons, List.not_mem_nil, or_false] at hu
            rcases hu with rfl | rfl <;> rfl) (by rw [HLN.out]; simp only [maxLen]; omega) (by rw [HLN.out]; omega) (HK.out.up.trans HU2.out).size ?_
          intro v5 w5 o5 g5 f5
          have HNX := Hid.of (HK.out.next o5 g5 f5)
          clear o5 g5 f5 HU2 HA2 HK HLN
          simp only [Act.put, List.setIfInBounds_toArray, List.set_cons_zero, List.set_cons_succ]
          go_wp2
          go_roundw
          case rel => exact ⟨j + 1, by simp, by omega, HNX⟩
          case measure => simp [intOf]; omega
        · have hltz : ¬ (j : Int) < 70 := by omega
          obtain rfl : j = 70 := by omega
          obtain ⟨WN, hWN⟩ : ∃ x, x = wr := ⟨_, rfl⟩
          subst hWN
          obtain ⟨fb, cp, hv9, hcap, hcpm⟩ := HK.out.shape
          obtain ⟨ga, gc, hvb, hgc, _⟩ := row_n HK.out.b
          rw [HN0.out.1] at hv9 hcap hvb hgc
          obtain ⟨m, hm⟩ : ∃ m, n0 + 70 = m := ⟨_, rfl⟩
          rw [hm] at hv9 hcap
          subst hv9 hvb
          have HMJ := HK
          clear HK
          have HCZ := Hid.of ((HB.out.t.up HMJ.out.up).cell (i := 0) rfl)
          have HCP := Hid.of (show (n0 : Int) ≤ (cp : Int) by omega)
          obtain ⟨q, hq⟩ : ∃ q, newE z0 f0 = q := ⟨_, rfl⟩
          have hGL : (f0 ++ List.replicate 70 ((77 : Int), (-77 : Int))).length = m := by rw [List.length_append, List.length_replicate, HN0.out.1, hm]
          have hROW := HMJ.out.a
          have hFT := Fts.of_row (w := WN) (B := W.heap.size) (g := fb) (c := cp) (fs := f0) (r := List.replicate 70 (77, -77)) (by rw [hGL] at hROW ⊢; exact hROW)
          rw [HN0.out.1] at hFT
          have hNw := New_any WN.drew z0 (.slice (some ⟨fb, 0, none⟩) n0 cp) f0 (hFT.up (Up.refl WN).drew) (by rw [HN0.out.1]; omega)
          rw [hq] at hNw
          have HNEW := Hid.of hNw
          have HQ := Hid.of hq
          have HGL := Hid.of hGL
          clear hNw hFT hROW hq hGL
          go_wp2_with fail
          refine wp_region_held_drew (S := fun w2 => Up WN w2) (by kernel_rfl) (Up.refl WN).drew (fun hS => ?_)
          refine wpAnyH_take (i := 0) (oi := { dst := some 48, op := Go.Op.move (Go.Operand.tmp 8), type := 3, pos := "law.go:148", after := #[], guard := none }) (v := .int .i64 0) rfl (by kernel_rfl) (by kernel_rfl) (by kernel_rfl) (fun _ _ _ h => h) (Or.inl ⟨by kernel_rfl, ?_⟩) hS ?_
          · intro w5 hSw
            clear hSw hS
            go_simp
          simp only [Act.put, List.setIfInBounds_toArray, List.set_cons_zero, List.set_cons_succ]
          refine wpAnyH_take (i := 1) (oi := { dst := some 49, op := Go.Op.indexAddr 91 (Go.Operand.tmp 7) (Go.Operand.tmp 48), type := 0, pos := "law.go:148", after := #[{ on := 0, ground := Go.Ground.data }], guard := none }) (v := .pointer (some ⟨tb, 0, none⟩)) rfl (by kernel_rfl) (by kernel_rfl) (by kernel_rfl) (fun _ _ _ h => h) (Or.inl ⟨by kernel_rfl, ?_⟩) hS ?_
          · intro w5 hSw
            clear hSw hS
            go_simp
          simp only [Act.put, List.setIfInBounds_toArray, List.set_cons_zero, List.set_cons_succ]
          refine wpAnyH_take (i := 2) (oi := { dst := some 50, op := Go.Op.fieldAddr 30 (Go.Operand.tmp 49) 0, type := 0, pos := "law.go:148", after := #[{ on := 1, ground := Go.Ground.data }], guard := none }) (v := .pointer (some ⟨tb, 0, none⟩)) rfl (by kernel_rfl) (by kernel_rfl) (by kernel_rfl) (fun _ _ _ h => h) (Or.inl ⟨by kernel_rfl, ?_⟩) hS ?_
          · intro w5 hSw
            clear hSw hS
            go_simp
          simp only [Act.put, List.setIfInBounds_toArray, List.set_cons_zero, List.set_cons_succ]
          refine wpAnyH_take (i := 3) (oi := { dst := some 51, op := Go.Op.load 3 (Go.Operand.tmp 50), type := 3, pos := "law.go:148", after := #[{ on := 2, ground := Go.Ground.data }], guard := none }) (v := .int .i64 z0) rfl (by kernel_rfl) (by kernel_rfl) (by kernel_rfl) (fun _ _ _ h => h) (Or.inl ⟨by kernel_rfl, ?_⟩) hS ?_
          · intro w5 hSw
            have hc := hSw.cell HCZ.out
            clear hSw hS
            go_simp
          simp only [Act.put, List.setIfInBounds_toArray, List.set_cons_zero, List.set_cons_succ]
          refine wpAnyH_take (i := 4) (oi := { dst := some 52, op := Go.Op.move (Go.Operand.tmp 9), type := 59, pos := "law.go:148", after := #[], guard := none }) (v := .slice (some ⟨fb, 0, none⟩) m cp) rfl (by kernel_rfl) (by kernel_rfl) (by kernel_rfl) (fun _ _ _ h => h) (Or.inl ⟨by kernel_rfl, ?_⟩) hS ?_
          · intro w5 hSw
            clear hSw hS
            go_simp
          simp only [Act.put, List.setIfInBounds_toArray, List.set_cons_zero, List.set_cons_succ]
          refine wpAnyH_take (i := 5) (oi := { dst := some 53, op := Go.Op.move (Go.Operand.tmp 10), type := 92, pos := "law.go:148", after := #[], guard := none }) (v := .slice ga n0 gc) rfl (by kernel_rfl) (by kernel_rfl) (by kernel_rfl) (fun _ _ _ h => h) (Or.inl ⟨by kernel_rfl, ?_⟩) hS ?_
          · intro w5 hSw
            clear hSw hS
            go_simp
          simp only [Act.put, List.setIfInBounds_toArray, List.set_cons_zero, List.set_cons_succ]
          refine wpAnyH_take (i := 6) (oi := { dst := some 54, op := Go.Op.call { callee := Go.Callee.builtin Go.Builtin.len, args := #[Go.Operand.tmp 53], argTypes := #[92] }, type := 3, pos := "law.go:148", after := #[{ on := 5, ground := Go.Ground.data }], guard := none }) (v := .int .i64 (n0 : Int)) rfl (by kernel_rfl) (by kernel_rfl) (by kernel_rfl) (fun _ _ _ h => h) (Or.inl ⟨by kernel_rfl, ?_⟩) hS ?_
          · intro w5 hSw
            clear hSw hS
            go_simp
          simp only [Act.put, List.setIfInBounds_toArray, List.set_cons_zero, List.set_cons_succ]
          refine wpAnyH_take (i := 7) (oi := { dst := some 55, op := Go.Op.slice 59 (Go.Operand.tmp 52) none (some (Go.Operand.tmp 54)) none, type := 59, pos := "law.go:148", after := #[{ on := 4, ground := Go.Ground.data }, { on := 6, ground := Go.Ground.data }], guard := none }) (v := .slice (some ⟨fb, 0, none⟩) n0 cp) rfl (by kernel_rfl) (by kernel_rfl) (by kernel_rfl) (fun _ _ _ h => h) (Or.inl ⟨by kernel_rfl, ?_⟩) hS ?_
          · intro w5 hSw
            clear hSw hS
            have hcz : (n0 : Int) ≤ (cp : Int) := HCP.out
            go_simp
          simp only [Act.put, List.setIfInBounds_toArray, List.set_cons_zero, List.set_cons_succ]
          refine wpAnyH_ready (rs := [8]) (by kernel_rfl) (by simp) ?_
          refine AllReadyH.cons (o := { dst := some 56, op := Go.Op.call { callee := Go.Callee.value (Go.Operand.func 12), args := #[Go.Operand.tmp 51, Go.Operand.tmp 55], argTypes := #[3, 59] }, type := 24, pos := "law.go:148", after := #[{ on := 3, ground := Go.Ground.data }, { on := 7, ground := Go.Ground.data }], guard := none }) rfl (fun K hK => ?_) AllReadyH.nil
          rw [if_pos (by kernel_rfl)]
          go_simp
          refine HNEW.out.mono ?_
          rintro e w5 ⟨na, rfl, hu5, hna⟩
          have HU5 := Hid.of ((Up.refl WN).drew.trans hu5)
          have HNA := Hid.of hna
          clear hu5 hna HNEW
          dsimp only
          refine hK.out _ _ HU5.out (fun hS2 => ?_)
          clear hK K hS
          have hS := hS2
          clear hS2
          refine wpAnyH_take (i := 9) (oi := { dst := some 47, op := Go.Op.move (Go.Operand.tmp 56), type := 24, pos := "law.go:148", after := #[{ on := 8, ground := Go.Ground.data }], guard := none }) (v := .tuple #[.pointer na, .int .i64 q]) rfl (by kernel_rfl) (by kernel_rfl) (by kernel_rfl) (fun _ _ _ h => h) (Or.inl ⟨by kernel_rfl, ?_⟩) hS ?_
          · intro w5 hSw
            clear hSw hS
            go_simp
          simp only [Act.put, List.setIfInBounds_toArray, List.set_cons_zero, List.set_cons_succ]
          refine wpAnyH_take (i := 10) (oi := { dst := some 57, op := Go.Op.extract (Go.Operand.tmp 47) 0, type := 22, pos := "law.go:148", after := #[{ on := 9, ground := Go.Ground.data }], guard := none }) (v := .pointer na) rfl (by kernel_rfl) (by kernel_rfl) (by kernel_rfl) (fun _ _ _ h => h) (Or.inl ⟨by kernel_rfl, ?_⟩) hS ?_
          · intro w5 hSw
            clear hSw hS
            go_simp
          simp only [Act.put, List.setIfInBounds_toArray, List.set_cons_zero, List.set_cons_succ]
          refine wpAnyH_take (i := 11) (oi := { dst := some 58, op := Go.Op.extract (Go.Operand.tmp 47) 1, type := 23, pos := "law.go:148", after := #[{ on := 9, ground := Go.Ground.data }, { on := 12, ground := Go.Ground.gcOnly Go.Departure.lateStores }], guard := none }) (v := .int .i64 q) rfl (by kernel_rfl) (by kernel_rfl) (by kernel_rfl) (fun _ _ _ h => h) (Or.inl ⟨by kernel_rfl, ?_⟩) hS ?_
          · intro w5 hSw
            clear hSw hS
            go_simp
          simp only [Act.put, List.setIfInBounds_toArray, List.set_cons_zero, List.set_cons_succ]
          refine wpAnyH_ready (rs := [12]) (by kernel_rfl) (by simp) ?_
          refine AllReadyH.cons (o := { dst := some 13, op := Go.Op.assign (Go.Operand.tmp 57), type := 22, pos := "law.go:148", after := #[{ on := 10, ground := Go.Ground.data }, { on := 8, ground := Go.Ground.chain }, { on := 0, ground := Go.Ground.phase }, { on := 1, ground := Go.Ground.phase }, { on := 2, ground := Go.Ground.phase }, { on := 3, ground := Go.Ground.phase }, { on := 4, ground := Go.Ground.phase }, { on := 5, ground := Go.Ground.phase }, { on := 6, ground := Go.Ground.phase }, { on := 7, ground := Go.Ground.phase }, { on := 8, ground := Go.Ground.phase }, { on := 9, ground := Go.Ground.phase }, { on := 10, ground := Go.Ground.phase }, { on := 11, ground := Go.Ground.textOnly Go.Departure.lateStores }], guard := none }) rfl (fun K hK => ?_) AllReadyH.nil
          rw [if_pos (by kernel_rfl)]
          go_simp
          refine hK.out _ _ hS (fun hS2 => ?_)
          clear hK K hS
          have hS := hS2
          clear hS2
          refine wpAnyH_ready (rs := [13]) (by kernel_rfl) (by simp) ?_
          refine AllReadyH.cons (o := { dst := some 14, op := Go.Op.assign (Go.Operand.tmp 58), type := 23, pos := "law.go:148", after := #[{ on := 11, ground := Go.Ground.data }, { on := 12, ground := Go.Ground.chain }, { on := 0, ground := Go.Ground.phase }, { on := 1, ground := Go.Ground.phase }, { on := 2, ground := Go.Ground.phase }, { on := 3, ground := Go.Ground.phase }, { on := 4, ground := Go.Ground.phase }, { on := 5, ground := Go.Ground.phase }, { on := 6, ground := Go.Ground.phase }, { on := 7, ground := Go.Ground.phase }, { on := 8, ground := Go.Ground.phase }, { on := 9, ground := Go.Ground.phase }, { on := 10, ground := Go.Ground.phase }, { on := 11, ground := Go.Ground.phase }, { on := 12, ground := Go.Ground.phase }], guard := none }) rfl (fun K hK => ?_) AllReadyH.nil
          rw [if_pos (by kernel_rfl)]
          go_simp
          refine hK.out _ _ hS (fun hS2 => ?_)
          clear hK K hS hS2
          refine wpAnyH_done (by kernel_rfl) ?_ _
          have HCZ5 := HU5.out.cell HCZ.out
          have hRN := RNew_any w5 z0 (.slice ga n0 gc) f0 (FR.of_row (ow_up HMJ.out.b HU5.out))
          rw [HQ.out] at hRN
          go_wp2_with fail
          refine hRN.mono ?_
          rintro e w6 ⟨ra, rfl, hu6, hra⟩
          have HU6 := Hid.of hu6
          have HRA := Hid.of hra
          clear hRN hu6 hra HCZ5 HCZ
          dsimp only
          have hmz : IntKind.i64.wrap ((n0 : Int) + 70) = (m : Int) := by rw [IntKind.wrap_i64]; omega
          have HUW := Hid.of (HU5.out.trans HU6.out)
          have HOC := Hid.of (OC.made (z := z0) (fs := f0) (lo := WN.drew.heap.size) HQ.out HU5.out.size HU6.out HNA.out HRA.out)
          have HK0 := Hid.of (show KL w6 w6 W.heap.size fb cp (f0 ++ List.replicate 70 (77, -77)) 0 from ⟨by
            rw [List.replicate_zero, List.nil_append, List.drop_zero, HGL.out]
            have := ow_up HMJ.out.a HUW.out
            rw [HGL.out] at this
            exact this, Fr.refl _ _⟩)
          have HK0A := Hid.of (ow_up HMJ.out.a HUW.out)
          have HMM0 := Hid.of (HMJ.out.m.up HUW.out)
          have HGG0 := Hid.of (ow_up HMJ.out.b HUW.out)
          have hfm : fb ≠ mb := fun e => HMJ.out.ne (by rw [e]; rfl)
          have hfl : W.heap.size ≤ fb ∧ fb < WN.heap.size := HMJ.out.a.lt fb rfl
          have HUP6 := Hid.of (HMJ.out.up.trans HUW.out)
          clear HNA HRA
          go_wp2
          go_loopw [17, 18] (fun v17 v18 w' => v17 = .bool true ∧ ∃ j : Nat, v18 = .int .i64 (j : Int) ∧ j ≤ m ∧ Hid (KL w6 w' W.heap.size fb cp (f0 ++ List.replicate 70 (77, -77)) j)) (fun _ v18 _ => m - (intOf v18).toNat)
          case atStart => exact ⟨rfl, 0, rfl, by omega, HK0⟩
          case round =>
            clear HK0
            obtain ⟨rfl, j, rfl, hjm, HK⟩ := hrel
            by_cases hlt : j < m
            · have hltz : (j : Int) < (m : Int) := by omega
              have hmcz : (m : Int) ≤ (cp : Int) := by omega
              have hjw : IntKind.i64.wrap ((j : Int) + 1) = (j : Int) + 1 := by
                have := hcpm
                simp only [maxLen] at this
                rw [IntKind.wrap_i64]; omega
              have hjg : j < (f0 ++ List.replicate 70 ((77 : Int), (-77 : Int))).length := by rw [HGL.out]; exact hlt
              by_cases hjn : j < n0
              · have hjnz : (j : Int) < (n0 : Int) := by omega
                have hgcz : (n0 : Int) ≤ (gc : Int) := by omega
                have hjf : j < f0.length := by rw [HN0.out.1]; exact hjn
                obtain ⟨p, hp⟩ : ∃ p, f0[j] = p := ⟨_, rfl⟩
                have hr1 := HK.out.get hjg (q := p) (by rw [List.getElem_append_left hjf, hp])
                have hg1 := HK.out.fr.own HGG0.out (fun g hg e => own_apart HGG0.out HK0A.out (by decide) hg (by rw [e]; rfl))
                obtain ⟨gb, hga, _, hr2⟩ := row_get (by rw [← HN0.out.1] at hg1; exact hg1) hjf
                subst hga
                rw [hp] at hr2
                obtain ⟨qk, qn⟩ := p
                have HRF := Hid.of (show wr.rangeAt fb (j * 2) [.int .i64 qk, .int .i64 qn] from hr1)
                have HRG := Hid.of (show wr.rangeAt gb (j * 2) [.int .i64 qk, .int .i64 qn] from hr2)
                clear hr1 hr2 hg1 hp
                go_wp2_with fail
                refine wp_region_held_drew (S := fun w2 => Up wr w2) (by kernel_rfl) (Up.refl wr).drew (fun hS => ?_)
                refine wpAnyH_take (i := 0) (oi := { dst := some 84, op := Go.Op.move (Go.Operand.tmp 17), type := 4, pos := "law.go:153", after := #[], guard := none }) (v := .bool true) rfl (by kernel_rfl) (by kernel_rfl) (by kernel_rfl) (fun _ _ _ h => h) (Or.inl ⟨by kernel_rfl, ?_⟩) hS ?_
                · intro w5 hSw
                  clear hSw hS
                  go_simp
                simp only [Act.put, List.setIfInBounds_toArray, List.set_cons_zero, List.set_cons_succ]
                refine wpAnyH_take (i := 1) (oi := { dst := some 85, op := Go.Op.move (Go.Operand.tmp 84), type := 4, pos := "law.go:153", after := #[{ on := 0, ground := Go.Ground.data }], guard := none }) (v := .bool true) rfl (by kernel_rfl) (by kernel_rfl) (by kernel_rfl) (fun _ _ _ h => h) (Or.inl ⟨by kernel_rfl, ?_⟩) hS ?_
                · intro w5 hSw
                  clear hSw hS
                  go_simp
                simp only [Act.put, List.setIfInBounds_toArray, List.set_cons_zero, List.set_cons_succ]
                refine wpAnyH_take (i := 2) (oi := { dst := some 86, op := Go.Op.move (Go.Operand.tmp 9), type := 59, pos := "law.go:153", after := #[{ on := 1, ground := Go.Ground.guard }], guard := some (1, true) }) (v := .slice (some ⟨fb, 0, none⟩) m cp) rfl (by kernel_rfl) (by kernel_rfl) (by kernel_rfl) (fun _ _ _ h => h) (Or.inl ⟨by kernel_rfl, ?_⟩) hS ?_
                · intro w5 hSw
                  clear hSw hS
                  go_simp
                simp only [Act.put, List.setIfInBounds_toArray, List.set_cons_zero, List.set_cons_succ]
                refine wpAnyH_take (i := 3) (oi := { dst := some 87, op := Go.Op.move (Go.Operand.tmp 18), type := 3, pos := "law.go:153", after := #[{ on := 1, ground := Go.Ground.guard }], guard := some (1, true) }) (v := .int .i64 (j : Int)) rfl (by kernel_rfl) (by kernel_rfl) (by kernel_rfl) (fun _ _ _ h => h) (Or.inl ⟨by kernel_rfl, ?_⟩) hS ?_
                · intro w5 hSw
                  clear hSw hS
                  go_simp
                simp only [Act.put, List.setIfInBounds_toArray, List.set_cons_zero, List.set_cons_succ]
                refine wpAnyH_take (i := 4) (oi := { dst := some 88, op := Go.Op.indexAddr 59 (Go.Operand.tmp 86) (Go.Operand.tmp 87), type := 0, pos := "law.go:153", after := #[{ on := 2, ground := Go.Ground.data }, { on := 3, ground := Go.Ground.data }, { on := 1, ground := Go.Ground.guard }], guard := some (1, true) }) (v := .pointer (some ⟨fb, j * 2, none⟩)) rfl (by kernel_rfl) (by kernel_rfl) (by kernel_rfl) (fun _ _ _ h => h) (Or.inl ⟨by kernel_rfl, ?_⟩) hS ?_
                · intro w5 hSw
                  clear hSw hS
                  go_simp
                simp only [Act.put, List.setIfInBounds_toArray, List.set_cons_zero, List.set_cons_succ]
                refine wpAnyH_take (i := 5) (oi := { dst := some 89, op := Go.Op.load 58 (Go.Operand.tmp 88), type := 58, pos := "law.go:153", after := #[{ on := 4, ground := Go.Ground.data }, { on := 1, ground := Go.Ground.guard }], guard := some (1, true) }) (v := .agg ([.int .i64 qk, .int .i64 qn]).toArray) rfl (by kernel_rfl) (by kernel_rfl) (by kernel_rfl) (fun _ _ _ h => h) (yieldsIf_load_mid (by kernel_rfl) _ _ rfl (fb) (j * 2) rfl ([.int .i64 qk, .int .i64 qn]) _ (fun w5 hSw => range_up' HRF.out hSw) Try.underlying58 rfl (by kernel_rfl)) hS ?_
                simp only [Act.put, List.setIfInBounds_toArray, List.set_cons_zero, List.set_cons_succ]
                refine wpAnyH_take (i := 6) (oi := { dst := some 90, op := Go.Op.move (Go.Operand.tmp 10), type := 92, pos := "law.go:153", after := #[{ on := 1, ground := Go.Ground.guard }], guard := some (1, true) }) (v := .slice (some ⟨gb, 0, none⟩) n0 gc) rfl (by kernel_rfl) (by kernel_rfl) (by kernel_rfl) (fun _ _ _ h => h) (Or.inl ⟨by kernel_rfl, ?_⟩) hS ?_
                · intro w5 hSw
                  clear hSw hS
                  go_simp
                simp only [Act.put, List.setIfInBounds_toArray, List.set_cons_zero, List.set_cons_succ]
                refine wpAnyH_take (i := 7) (oi := { dst := some 91, op := Go.Op.move (Go.Operand.tmp 18), type := 3, pos := "law.go:153", after := #[{ on := 1, ground := Go.Ground.guard }], guard := some (1, true) }) (v := .int .i64 (j : Int)) rfl (by kernel_rfl) (by kernel_rfl) (by kernel_rfl) (fun _ _ _ h => h) (Or.inl ⟨by kernel_rfl, ?_⟩) hS ?_
                · intro w5 hSw
                  clear hSw hS
                  go_simp
                simp only [Act.put, List.setIfInBounds_toArray, List.set_cons_zero, List.set_cons_succ]
                refine wpAnyH_take (i := 8) (oi := { dst := some 92, op := Go.Op.indexAddr 92 (Go.Operand.tmp 90) (Go.Operand.tmp 91), type := 0, pos := "law.go:153", after := #[{ on := 6, ground := Go.Ground.data }, { on := 7, ground := Go.Ground.data }, { on := 1, ground := Go.Ground.guard }], guard := some (1, true) }) (v := .pointer (some ⟨gb, j * 2, none⟩)) rfl (by kernel_rfl) (by kernel_rfl) (by kernel_rfl) (fun _ _ _ h => h) (Or.inl ⟨by kernel_rfl, ?_⟩) hS ?_
                · intro w5 hSw
                  clear hSw hS
                  go_simp
                simp only [Act.put, List.setIfInBounds_toArray, List.set_cons_zero, List.set_cons_succ]
                refine wpAnyH_take (i := 9) (oi := { dst := some 93, op := Go.Op.fieldAddr 97 (Go.Operand.tmp 92) 0, type := 0, pos := "law.go:153", after := #[{ on := 8, ground := Go.Ground.data }, { on := 1, ground := Go.Ground.guard }], guard := some (1, true) }) (v := .pointer (some ⟨gb, j * 2, none⟩)) rfl (by kernel_rfl) (by kernel_rfl) (by kernel_rfl) (fun _ _ _ h => h) (Or.inl ⟨by kernel_rfl, ?_⟩) hS ?_
                · intro w5 hSw
                  clear hSw hS
                  go_simp
                simp only [Act.put, List.setIfInBounds_toArray, List.set_cons_zero, List.set_cons_succ]
                refine wpAnyH_take (i := 10) (oi := { dst := some 94, op := Go.Op.load 3 (Go.Operand.tmp 93), type := 3, pos := "law.go:153", after := #[{ on := 9, ground := Go.Ground.data }, { on := 1, ground := Go.Ground.guard }], guard := some (1, true) }) (v := .int .i64 qk) rfl (by kernel_rfl) (by kernel_rfl) (by kernel_rfl) (fun _ _ _ h => h) (Or.inl ⟨by kernel_rfl, ?_⟩) hS ?_
                · intro w5 hSw
                  have hc : w5.cell? ⟨gb, j * 2, none⟩ = some (.int .i64 qk) := (range_up' HRG.out hSw) 0 _ rfl
                  clear hSw hS
                  go_simp
                simp only [Act.put, List.setIfInBounds_toArray, List.set_cons_zero, List.set_cons_succ]
                refine wpAnyH_take (i := 11) (oi := { dst := some 95, op := Go.Op.move (Go.Operand.tmp 10), type := 92, pos := "law.go:153", after := #[{ on := 1, ground := Go.Ground.guard }], guard := some (1, true) }) (v := .slice (some ⟨gb, 0, none⟩) n0 gc) rfl (by kernel_rfl) (by kernel_rfl) (by kernel_rfl) (fun _ _ _ h => h) (Or.inl ⟨by kernel_rfl, ?_⟩) hS ?_
                · intro w5 hSw
                  clear hSw hS
                  go_simp
                simp only [Act.put, List.setIfInBounds_toArray, List.set_cons_zero, List.set_cons_succ]
                refine wpAnyH_take (i := 12) (oi := { dst := some 96, op := Go.Op.move (Go.Operand.tmp 18), type := 3, pos := "law.go:153", after := #[{ on := 1, ground := Go.Ground.guard }], guard := some (1, true) }) (v := .int .i64 (j : Int)) rfl (by kernel_rfl) (by kernel_rfl) (by kernel_rfl) (fun _ _ _ h => h) (Or.inl ⟨by kernel_rfl, ?_⟩) hS ?_
                · intro w5 hSw
                  clear hSw hS
                  go_simp
                simp only [Act.put, List.setIfInBounds_toArray, List.set_cons_zero, List.set_cons_succ]
                refine wpAnyH_take (i := 13) (oi := { dst := some 97, op := Go.Op.indexAddr 92 (Go.Operand.tmp 95) (Go.Operand.tmp 96), type := 0, pos := "law.go:153", after := #[{ on := 11, ground := Go.Ground.data }, { on := 12, ground := Go.Ground.data }, { on := 1, ground := Go.Ground.guard }], guard := some (1, true) }) (v := .pointer (some ⟨gb, j * 2, none⟩)) rfl (by kernel_rfl) (by kernel_rfl) (by kernel_rfl) (fun _ _ _ h => h) (Or.inl ⟨by kernel_rfl, ?_⟩) hS ?_
                · intro w5 hSw
                  clear hSw hS
                  go_simp
                simp only [Act.put, List.setIfInBounds_toArray, List.set_cons_zero, List.set_cons_succ]
                refine wpAnyH_take (i := 14) (oi := { dst := some 98, op := Go.Op.fieldAddr 97 (Go.Operand.tmp 97) 1, type := 0, pos := "law.go:153", after := #[{ on := 13, ground := Go.Ground.data }, { on := 1, ground := Go.Ground.guard }], guard := some (1, true) }) (v := .pointer (some ⟨gb, j * 2 + 1, none⟩)) rfl (by kernel_rfl) (by kernel_rfl) (by kernel_rfl) (fun _ _ _ h => h) (Or.inl ⟨by kernel_rfl, ?_⟩) hS ?_
                · intro w5 hSw
                  clear hSw hS
                  go_simp
                simp only [Act.put, List.setIfInBounds_toArray, List.set_cons_zero, List.set_cons_succ]
                refine wpAnyH_take (i := 15) (oi := { dst := some 99, op := Go.Op.load 3 (Go.Operand.tmp 98), type := 3, pos := "law.go:153", after := #[{ on := 14, ground := Go.Ground.data }, { on := 1, ground := Go.Ground.guard }], guard := some (1, true) }) (v := .int .i64 qn) rfl (by kernel_rfl) (by kernel_rfl) (by kernel_rfl) (fun _ _ _ h => h) (Or.inl ⟨by kernel_rfl, ?_⟩) hS ?_
                · intro w5 hSw
                  have hc : w5.cell? ⟨gb, j * 2 + 1, none⟩ = some (.int .i64 qn) := (range_up' HRG.out hSw) 1 _ rfl
                  clear hSw hS
                  go_simp
                simp only [Act.put, List.setIfInBounds_toArray, List.set_cons_zero, List.set_cons_succ]
                refine wpAnyH_take (i := 16) (oi := { dst := some 100, op := Go.Op.build 58 #[(0, Go.Operand.tmp 94), (1, Go.Operand.tmp 99)], type := 58, pos := "law.go:153", after := #[{ on := 10, ground := Go.Ground.data }, { on := 15, ground := Go.Ground.data }, { on := 1, ground := Go.Ground.guard }], guard := some (1, true) }) (v := .agg #[.int .i64 qk, .int .i64 qn]) rfl (by kernel_rfl) (by kernel_rfl) (by kernel_rfl) (fun _ _ _ h => h) (Or.inl ⟨by kernel_rfl, ?_⟩) hS ?_
                · intro w5 hSw
                  clear hSw hS
                  go_simp
                simp only [Act.put, List.setIfInBounds_toArray, List.set_cons_zero, List.set_cons_succ]
                refine wpAnyH_take (i := 17) (oi := { dst := some 101, op := Go.Op.binOp Go.BinOp.eql 58 (Go.Operand.tmp 89) (Go.Operand.tmp 100) 58, type := 4, pos := "law.go:153", after := #[{ on := 5, ground := Go.Ground.data }, { on := 16, ground := Go.Ground.data }, { on := 1, ground := Go.Ground.guard }], guard := some (1, true) }) (v := .bool true) rfl (by kernel_rfl) (by kernel_rfl) (by kernel_rfl) (fun _ _ _ h => h) (Or.inl ⟨by kernel_rfl, ?_⟩) hS ?_
                · intro w5 hSw
                  exact exec_eqlF rfl qk qn rfl rfl w5
                simp only [Act.put, List.setIfInBounds_toArray, List.set_cons_zero, List.set_cons_succ]
                refine wpAnyH_take (i := 18) (oi := { dst := some 102, op := Go.Op.pick (Go.Operand.tmp 85) (Go.Operand.tmp 101) (Go.Operand.const (Go.Value.bool false)), type := 4, pos := "law.go:153", after := #[{ on := 1, ground := Go.Ground.data }, { on := 17, ground := Go.Ground.data }], guard := none }) (v := .bool true) rfl (by kernel_rfl) (by kernel_rfl) (by kernel_rfl) (fun _ _ _ h => h) (Or.inl ⟨by kernel_rfl, ?_⟩) hS ?_
                · intro w5 hSw
                  clear hSw hS
                  go_simp
                simp only [Act.put, List.setIfInBounds_toArray, List.set_cons_zero, List.set_cons_succ]
                refine wpAnyH_ready (rs := [19]) (by kernel_rfl) (by simp) ?_
                refine AllReadyH.cons (o := { dst := some 17, op := Go.Op.assign (Go.Operand.tmp 102), type := 4, pos := "law.go:153", after := #[{ on := 18, ground := Go.Ground.data }, { on := 1, ground := Go.Ground.chain }, { on := 0, ground := Go.Ground.phase }, { on := 1, ground := Go.Ground.phase }, { on := 2, ground := Go.Ground.phase }, { on := 3, ground := Go.Ground.phase }, { on := 4, ground := Go.Ground.phase }, { on := 5, ground := Go.Ground.phase }, { on := 6, ground := Go.Ground.phase }, { on := 7, ground := Go.Ground.phase }, { on := 8, ground := Go.Ground.phase }, { on := 9, ground := Go.Ground.phase }, { on := 10, ground := Go.Ground.phase }, { on := 11, ground := Go.Ground.phase }, { on := 12, ground := Go.Ground.phase }, { on := 13, ground := Go.Ground.phase }, { on := 14, ground := Go.Ground.phase }, { on := 15, ground := Go.Ground.phase }, { on := 16, ground := Go.Ground.phase }, { on := 17, ground := Go.Ground.phase }, { on := 18, ground := Go.Ground.phase }], guard := none }) rfl (fun K hK => ?_) AllReadyH.nil
                rw [if_pos (by kernel_rfl)]
                go_simp
                refine hK.out _ _ hS (fun hS2 => ?_)
                clear hK K hS
                have hS := hS2
                clear hS2
                refine wpAnyH_done (by kernel_rfl) ?_ _
                clear hS
                have HK7 := Hid.of (HK.out.up' (Up.refl wr).drew)
                generalize wr.drew = w7 at *
                clear HK
                go_wp2_with (with_reducible show wpList _ _ _ ({ dst := _, op := Op.store 58 _ _, type := _, pos := _, after := _, guard := _ } :: _) _ _; refine Shut.out ?_)
                show wpList _ _ _ _ _ _
                refine wpList_store_mid rfl 58 _ _ rfl fb (j * 2) #[.int .i64 1, .int .i64 0] rfl rfl (HK7.out.there hjg) (by kernel_rfl) (by simp [Value.oneCell']) ?_
                simp only [Act.put]
                have HN := Hid.of (HK7.out.next hjg)
                clear HK7
                go_wp2
                generalize w7.setCells fb (j * 2) [.int .i64 1, .int .i64 0] = w8 at *
                go_roundw
                case rel => exact ⟨rfl, j + 1, by simp, by omega, HN⟩
                case measure => simp [intOf]; omega
              · have hjnz : ¬ (j : Int) < (n0 : Int) := by omega
                have hr1 := HK.out.get hjg (q := (77, -77)) (by rw [List.getElem_append_right (by rw [HN0.out.1]; omega), List.getElem_replicate])
                have HRF := Hid.of (show wr.rangeAt fb (j * 2) [.int .i64 77, .int .i64 (-77)] from hr1)
                have HMM := Hid.of (HK.out.fr.at HMM0.out (fun e => hfm e.symm))
                clear hr1
                go_wp2_with fail
                refine wp_region_held_drew (S := fun w2 => Up wr w2) (by kernel_rfl) (Up.refl wr).drew (fun hS => ?_)
                refine wpAnyH_take (i := 0) (oi := { dst := some 103, op := Go.Op.move (Go.Operand.tmp 17), type := 4, pos := "law.go:155", after := #[], guard := none }) (v := .bool true) rfl (by kernel_rfl) (by kernel_rfl) (by kernel_rfl) (fun _ _ _ h => h) (Or.inl ⟨by kernel_rfl, ?_⟩) hS ?_
                · intro w5 hSw
                  clear hSw hS
                  go_simp
                simp only [Act.put, List.setIfInBounds_toArray, List.set_cons_zero, List.set_cons_succ]
                refine wpAnyH_take (i := 1) (oi := { dst := some 104, op := Go.Op.move (Go.Operand.tmp 103), type := 4, pos := "law.go:155", after := #[{ on := 0, ground := Go.Ground.data }], guard := none }) (v := .bool true) rfl (by kernel_rfl) (by kernel_rfl) (by kernel_rfl) (fun _ _ _ h => h) (Or.inl ⟨by kernel_rfl, ?_⟩) hS ?_
                · intro w5 hSw
                  clear hSw hS
                  go_simp
                simp only [Act.put, List.setIfInBounds_toArray, List.set_cons_zero, List.set_cons_succ]
                refine wpAnyH_take (i := 2) (oi := { dst := some 105, op := Go.Op.move (Go.Operand.tmp 9), type := 59, pos := "law.go:155", after := #[{ on := 1, ground := Go.Ground.guard }], guard := some (1, true) }) (v := .slice (some ⟨fb, 0, none⟩) m cp) rfl (by kernel_rfl) (by kernel_rfl) (by kernel_rfl) (fun _ _ _ h => h) (Or.inl ⟨by kernel_rfl, ?_⟩) hS ?_
                · intro w5 hSw
                  clear hSw hS
                  go_simp
                simp only [Act.put, List.setIfInBounds_toArray, List.set_cons_zero, List.set_cons_succ]
                refine wpAnyH_take (i := 3) (oi := { dst := some 106, op := Go.Op.move (Go.Operand.tmp 18), type := 3, pos := "law.go:155", after := #[{ on := 1, ground := Go.Ground.guard }], guard := some (1, true) }) (v := .int .i64 (j : Int)) rfl (by kernel_rfl) (by kernel_rfl) (by kernel_rfl) (fun _ _ _ h => h) (Or.inl ⟨by kernel_rfl, ?_⟩) hS ?_
                · intro w5 hSw
                  clear hSw hS
                  go_simp
                simp only [Act.put, List.setIfInBounds_toArray, List.set_cons_zero, List.set_cons_succ]
                refine wpAnyH_take (i := 4) (oi := { dst := some 107, op := Go.Op.indexAddr 59 (Go.Operand.tmp 105) (Go.Operand.tmp 106), type := 0, pos := "law.go:155", after := #[{ on := 2, ground := Go.Ground.data }, { on := 3, ground := Go.Ground.data }, { on := 1, ground := Go.Ground.guard }], guard := some (1, true) }) (v := .pointer (some ⟨fb, j * 2, none⟩)) rfl (by kernel_rfl) (by kernel_rfl) (by kernel_rfl) (fun _ _ _ h => h) (Or.inl ⟨by kernel_rfl, ?_⟩) hS ?_
                · intro w5 hSw
                  clear hSw hS
                  go_simp
                simp only [Act.put, List.setIfInBounds_toArray, List.set_cons_zero, List.set_cons_succ]
                refine wpAnyH_take (i := 5) (oi := { dst := some 108, op := Go.Op.load 58 (Go.Operand.tmp 107), type := 58, pos := "law.go:155", after := #[{ on := 4, ground := Go.Ground.data }, { on := 1, ground := Go.Ground.guard }], guard := some (1, true) }) (v := .agg ([.int .i64 77, .int .i64 (-77)]).toArray) rfl (by kernel_rfl) (by kernel_rfl) (by kernel_rfl) (fun _ _ _ h => h) (yieldsIf_load_mid (by kernel_rfl) _ _ rfl (fb) (j * 2) rfl ([.int .i64 77, .int .i64 (-77)]) _ (fun w5 hSw => range_up' HRF.out hSw) Try.underlying58 rfl (by kernel_rfl)) hS ?_
                simp only [Act.put, List.setIfInBounds_toArray, List.set_cons_zero, List.set_cons_succ]
                refine wpAnyH_take (i := 6) (oi := { dst := some 109, op := Go.Op.load 58 (Go.Operand.tmp 11), type := 58, pos := "law.go:155", after := #[{ on := 1, ground := Go.Ground.guard }], guard := some (1, true) }) (v := .agg ([.int .i64 77, .int .i64 (-77)]).toArray) rfl (by kernel_rfl) (by kernel_rfl) (by kernel_rfl) (fun _ _ _ h => h) (yieldsIf_load_mid (by kernel_rfl) _ _ rfl (mb) (0) rfl ([.int .i64 77, .int .i64 (-77)]) _ (fun w5 hSw => (HMM.out.up hSw).range) Try.underlying58 rfl (by kernel_rfl)) hS ?_
                simp only [Act.put, List.setIfInBounds_toArray, List.set_cons_zero, List.set_cons_succ]
                refine wpAnyH_take (i := 7) (oi := { dst := some 110, op := Go.Op.binOp Go.BinOp.eql 58 (Go.Operand.tmp 108) (Go.Operand.tmp 109) 58, type := 4, pos := "law.go:155", after := #[{ on := 5, ground := Go.Ground.data }, { on := 6, ground := Go.Ground.data }, { on := 1, ground := Go.Ground.guard }], guard := some (1, true) }) (v := .bool true) rfl (by kernel_rfl) (by kernel_rfl) (by kernel_rfl) (fun _ _ _ h => h) (Or.inl ⟨by kernel_rfl, ?_⟩) hS ?_
                · intro w5 hSw
                  exact exec_eqlF rfl 77 (-77) rfl rfl w5
                simp only [Act.put, List.setIfInBounds_toArray, List.set_cons_zero, List.set_cons_succ]
                refine wpAnyH_take (i := 8) (oi := { dst := some 111, op := Go.Op.pick (Go.Operand.tmp 104) (Go.Operand.tmp 110) (Go.Operand.const (Go.Value.bool false)), type := 4, pos := "law.go:155", after := #[{ on := 1, ground := Go.Ground.data }, { on := 7, ground := Go.Ground.data }], guard := none }) (v := .bool true) rfl (by kernel_rfl) (by kernel_rfl) (by kernel_rfl) (fun _ _ _ h => h) (Or.inl ⟨by kernel_rfl, ?_⟩) hS ?_
                · intro w5 hSw
                  clear hSw hS
                  go_simp
                simp only [Act.put, List.setIfInBounds_toArray, List.set_cons_zero, List.set_cons_succ]
                refine wpAnyH_ready (rs := [9]) (by kernel_rfl) (by simp) ?_
                refine AllReadyH.cons (o := { dst := some 17, op := Go.Op.assign (Go.Operand.tmp 111), type := 4, pos := "law.go:155", after := #[{ on := 8, ground := Go.Ground.data }, { on := 1, ground := Go.Ground.chain }, { on := 0, ground := Go.Ground.phase }, { on := 1, ground := Go.Ground.phase }, { on := 2, ground := Go.Ground.phase }, { on := 3, ground := Go.Ground.phase }, { on := 4, ground := Go.Ground.phase }, { on := 5, ground := Go.Ground.phase }, { on := 6, ground := Go.Ground.phase }, { on := 7, ground := Go.Ground.phase }, { on := 8, ground := Go.Ground.phase }], guard := none }) rfl (fun K hK => ?_) AllReadyH.nil
                rw [if_pos (by kernel_rfl)]
                go_simp
                refine hK.out _ _ hS (fun hS2 => ?_)
                clear hK K hS
                have hS := hS2
                clear hS2
                refine wpAnyH_done (by kernel_rfl) ?_ _
                clear hS
                have HK7 := Hid.of (HK.out.up' (Up.refl wr).drew)
                generalize wr.drew = w7 at *
                clear HK
                go_wp2_with (with_reducible show wpList _ _ _ ({ dst := _, op := Op.store 58 _ _, type := _, pos := _, after := _, guard := _ } :: _) _ _; refine Shut.out ?_)
                show wpList _ _ _ _ _ _
                refine wpList_store_mid rfl 58 _ _ rfl fb (j * 2) #[.int .i64 1, .int .i64 0] rfl rfl (HK7.out.there hjg) (by kernel_rfl) (by simp [Value.oneCell']) ?_
                simp only [Act.put]
                have HN := Hid.of (HK7.out.next hjg)
                clear HK7
                go_wp2
                generalize w7.setCells fb (j * 2) [.int .i64 1, .int .i64 0] = w8 at *
                go_roundw
                case rel => exact ⟨rfl, j + 1, by simp, by omega, HN⟩
                case measure => simp [intOf]; omega
            · have hltz : ¬ (j : Int) < (m : Int) := by omega
              obtain ⟨w8, hw8⟩ : ∃ x, x = wr := ⟨_, rfl⟩
              subst hw8
              have HU8 := Hid.of (up_fr HUP6.out HK.out.fr (fun g hg => by subst hg; exact hfl.1))
              have HB8 := Hid.of (HB.out.up' HU8.out)
              have hsz8 := HK.out.fr.size
              rcases HOC.out with ⟨rfl, rfl, hoc⟩ | ⟨xa, ya, rfl, rfl, hoc⟩
              · have HO8 := Hid.of (OC.fr hoc HK.out.fr (fun g hg => by subst hg; exact .inl hfl.2))
                clear hoc HOC
                have hlo : W.heap.size ≤ WN.drew.heap.size := HMJ.out.up.drew.size
                have hpl := lt_of_at HB.out.p
                have hbl := lt_of_at HB.out.b
                have t0 := HB8.out.p.thaw 0
                have t1 := HB8.out.p.thaw 2
                have t2 := HB8.out.p.thaw 4
                have p0 := HB8.out.p.cell (i := 0) rfl
                have p1 := HB8.out.p.cell (i := 2) rfl
                have p2 := HB8.out.p.cell (i := 4) rfl
                have HB9 := Hid.of (((HB8.out.set 0 (.pointer none)).set 2 (.pointer none)).set 4 (.bool false))
                simp only [PS, List.set_cons_zero, List.set_cons_succ] at HB9
                have HO9 := Hid.of (((OC.set HO8.out (pb := pb) (i := 0) (by omega) (.pointer none)).set (pb := pb) (i := 2) (by omega) (.pointer none)).set (pb := pb) (i := 4) (by omega) (.bool false))
                have HS9 := Hid.of (show w6.heap.size ≤ (((w8.setCell ⟨pb, 0, none⟩ (.pointer none)).setCell ⟨pb, 2, none⟩ (.pointer none)).setCell ⟨pb, 4, none⟩ (.bool false)).heap.size by rw [set_size, set_size, set_size]; exact hsz8)
                clear HB8 HO8 HU8 hsz8 HK HMJ HU5 HU6 HUW HK0A HMM0 HGG0 HUP6
                go_wp2_with (go_at_call 13; refine (num_walk _ _).mono ?_; rintro _ w9 ⟨rfl, h9⟩; obtain rfl := h9.symm; clear h9; dsimp only)
                go_wp2
                clear t0 t1 t2 p0 p1 p2
                generalize ((w8.setCell ⟨pb, 0, none⟩ (.pointer none)).setCell ⟨pb, 2, none⟩ (.pointer none)).setCell ⟨pb, 4, none⟩ (.bool false) = w9 at *
                go_roundw
                case rel => exact .inr (.inl ⟨rfl, Hid.of ⟨_, _, _, _, _, HB9.out, HO9.out, by omega, by omega, HS9.out⟩⟩)
                case measure => simp [intOf]
              · have HO8 := Hid.of (OC.fr hoc HK.out.fr (fun g hg => by subst hg; exact .inl hfl.2))
                clear hoc HOC
                have hlo : W.heap.size ≤ WN.drew.heap.size := HMJ.out.up.drew.size
                have hpl := lt_of_at HB.out.p
                have hbl := lt_of_at HB.out.b
                have t0 := HB8.out.p.thaw 0
                have t1 := HB8.out.p.thaw 2
                have t2 := HB8.out.p.thaw 4
                have p0 := HB8.out.p.cell (i := 0) rfl
                have p1 := HB8.out.p.cell (i := 2) rfl
                have p2 := HB8.out.p.cell (i := 4) rfl
                have HB9 := Hid.of (((HB8.out.set 0 (.pointer (some xa))).set 2 (.pointer (some ya))).set 4 (.bool true))
                simp only [PS, List.set_cons_zero, List.set_cons_succ] at HB9
                have HO9 := Hid.of (((OC.set HO8.out (pb := pb) (i := 0) (by omega) (.pointer (some xa))).set (pb := pb) (i := 2) (by omega) (.pointer (some ya))).set (pb := pb) (i := 4) (by omega) (.bool true))
                have HS9 := Hid.of (show w6.heap.size ≤ (((w8.setCell ⟨pb, 0, none⟩ (.pointer (some xa))).setCell ⟨pb, 2, none⟩ (.pointer (some ya))).setCell ⟨pb, 4, none⟩ (.bool true)).heap.size by rw [set_size, set_size, set_size]; exact hsz8)
                clear HB8 HO8 HU8 hsz8 HK HMJ HU5 HU6 HUW HK0A HMM0 HGG0 HUP6
                go_wp2_with (go_at_call 13; refine (num_walk _ _).mono ?_; rintro _ w9 ⟨rfl, h9⟩; obtain rfl := h9.symm; clear h9; dsimp only)
                go_wp2
                clear t0 t1 t2 p0 p1 p2
                generalize ((w8.setCell ⟨pb, 0, none⟩ (.pointer (some xa))).setCell ⟨pb, 2, none⟩ (.pointer (some ya))).setCell ⟨pb, 4, none⟩ (.bool true) = w9 at *
                go_roundw
                case rel => exact .inr (.inl ⟨rfl, Hid.of ⟨_, _, _, _, _, HB9.out, HO9.out, by omega, by omega, HS9.out⟩⟩)
                case measure => simp [intOf]
    · obtain ⟨a, r, on, lo, hi, hB, hX1, hX2, hX3, hX4⟩ := HR.out
      have HB := Hid.of hB
      have HX := Hid.of (And.intro hX1 (And.intro hX2 (And.intro hX3 hX4)))
      clear HR hB hX1 hX2 hX3 hX4
      have HCT := HB.out.t.cell (i := 3) rfl
      have hFt := fates_walk W (.slice s1 n1 c1) f1 (HF1.out.up HB.out.up) (by rw [HN1.out.1]; exact l1)
      go_wp2_with fail
      refine hFt.mono ?_
      rintro e w1 ⟨va, vb, rfl, hFB⟩
      have HFB := Hid.of hFB
      clear hFB hFt HCT
      dsimp only
      have HM0 := Hid.of (at_new w1 58 [.int .i64 0, .int .i64 0])
      go_wp2_with (with_reducible show wpList _ _ _ ({ dst := _, op := Op.store 58 _ _, type := _, pos := _, after := _, guard := _ } :: _) _ _; refine Shut.out ?_)
      show wpList _ _ _ _ _ _
      refine wpList_store_at rfl 58 _ _ rfl w1.heap.size HM0.out [.int .i64 77, .int .i64 (-77)] rfl rfl rfl (by kernel_rfl) (by simp [Value.oneCell']) ?_
      intro w2 hM gM
      have HMJ := Hid.of (MJ.start HFB.out hM gM)
      clear hM gM HM0 HFB
      generalize w1.heap.size = mb at *
      simp only [Act.put]
      go_wp2
      go_loopw [9, 12] (fun v9 v12 w' => ∃ j : Nat, v12 = .int .i64 (j : Int) ∧ j ≤ 70 ∧ Hid (MJ W w' mb v9 vb f1 j)) (fun _ v12 _ => 70 - (intOf v12).toNat)
      case atStart => exact ⟨0, rfl, by omega, HMJ⟩
      case round =>
        clear HMJ
        obtain ⟨j, rfl, hj70, HK⟩ := hrel
        by_cases hlt : j < 70
        · have hltz : (j : Int) < 70 := by omega
          have hjw : IntKind.i64.wrap ((j : Int) + 1) = (j : Int) + 1 := by rw [IntKind.wrap_i64]; omega
          have HLN := Hid.of (show (f1 ++ List.replicate j ((77 : Int), (-77 : Int))).length = n1 + j by rw [List.length_append, List.length_replicate, HN1.out.1])
          go_wp2_with (with_reducible show wpList _ _ _ ({ dst := _, op := Op.load 58 _, type := _, pos := _, after := _, guard := _ } :: _) _ _; refine Shut.out ?_)
          show wpList _ _ _ _ _ _
          refine wpList_load_mid rfl 58 _ rfl mb 0 rfl [.int .i64 77, .int .i64 (-77)] _ HK.out.m.range Try.underlying58 rfl (by kernel_rfl) ?_
          simp only [Act.put, List.setIfInBounds_toArray, List.set_cons_zero, List.set_cons_succ]
          have HU2 := Hid.of ((Up.refl wr).alloc (.cells #[.int .i64 77, .int .i64 (-77)] 58))
          have HA2 := Hid.of (at_new wr 58 [.int .i64 77, .int .i64 (-77)])
          go_wp2_with (with_reducible show wpList _ _ _ ({ dst := _, op := Op.call { callee := Callee.builtin Builtin.append, args := _, argTypes := _ }, type := _, pos := _, after := _, guard := _ } :: _) _ _; refine Shut.out ?_)
          show wpList _ _ _ _ _ _
          refine wpList_appFr rfl _ _ 59 rfl W.heap.size 58 ia (.agg #[.int .i64 0, .int .i64 0]) 2 16 Try.underlying59 iaa iab iac iad rfl (by decide) u9 _ _ rfl (ow_up HK.out.a HU2.out) ⟨wr.heap.size, 0, none⟩ 1 1 [.int .i64 77, .int .i64 (-77)] rfl rfl (fun j u hu => by rw [Addr.add_lit, Nat.zero_add]; exact HA2.out.cell hu) (fun u hu => by
            simp only [List.mem_cons, List.not_mem_nil, or_false] at hu
            rcases hu with rfl | rfl <;> rfl) (by rw [HLN.out]; simp only [maxLen]; omega) (by rw [HLN.out]; omega) (HK.out.up.trans HU2.out).size ?_
          intro v5 w5 o5 g5 f5
          have HNX := Hid.of (HK.out.next o5 g5 f5)
          clear o5 g5 f5 HU2 HA2 HK HLN
          simp only [Act.put, List.setIfInBounds_toArray, List.set_cons_zero, List.set_cons_succ]
          go_wp2
          go_roundw
          case rel => exact ⟨j + 1, by simp, by omega, HNX⟩
          case measure => simp [intOf]; omega
        · have hltz : ¬ (j : Int) < 70 := by omega
          obtain rfl : j = 70 := by omega
          obtain ⟨WN, hWN⟩ : ∃ x, x = wr := ⟨_, rfl⟩
          subst hWN
          obtain ⟨fb, cp, hv9, hcap, hcpm⟩ := HK.out.shape
          obtain ⟨ga, gc, hvb, hgc, _⟩ := row_n HK.out.b
          rw [HN1.out.1] at hv9 hcap hvb hgc
          obtain ⟨m, hm⟩ : ∃ m, n1 + 70 = m := ⟨_, rfl⟩
          rw [hm] at hv9 hcap
          subst hv9 hvb
          have HMJ := HK
          clear HK
          have HCZ := Hid.of ((HB.out.t.up HMJ.out.up).cell (i := 2) rfl)
          have HCP := Hid.of (show (n1 : Int) ≤ (cp : Int) by omega)
          obtain ⟨q, hq⟩ : ∃ q, newE z1 f1 = q := ⟨_, rfl⟩
          have hGL : (f1 ++ List.replicate 70 ((77 : Int), (-77 : Int))).length = m := by rw [List.length_append, List.length_replicate, HN1.out.1, hm]
          have hROW := HMJ.out.a
          have hFT := Fts.of_row (w := WN) (B := W.heap.size) (g := fb) (c := cp) (fs := f1) (r := List.replicate 70 (77, -77)) (by rw [hGL] at hROW ⊢; exact hROW)
          rw [HN1.out.1] at hFT
          have hNw := New_any WN.drew z1 (.slice (some ⟨fb, 0, none⟩) n1 cp) f1 (hFT.up (Up.refl WN).drew) (by rw [HN1.out.1]; omega)
          rw [hq] at hNw
          have HNEW := Hid.of hNw
          have HQ := Hid.of hq
          have HGL := Hid.of hGL
          clear hNw hFT hROW hq hGL
          go_wp2_with fail
          refine wp_region_held_drew (S := fun w2 => Up WN w2) (by kernel_rfl) (Up.refl WN).drew (fun hS => ?_)
          refine wpAnyH_take (i := 0) (oi := { dst := some 48, op := Go.Op.move (Go.Operand.tmp 8), type := 3, pos := "law.go:148", after := #[], guard := none }) (v := .int .i64 1) rfl (by kernel_rfl) (by kernel_rfl) (by kernel_rfl) (fun _ _ _ h => h) (Or.inl ⟨by kernel_rfl, ?_⟩) hS ?_
          · intro w5 hSw
            clear hSw hS
            go_simp
          simp only [Act.put, List.setIfInBounds_toArray, List.set_cons_zero, List.set_cons_succ]
          refine wpAnyH_take (i := 1) (oi := { dst := some 49, op := Go.Op.indexAddr 91 (Go.Operand.tmp 7) (Go.Operand.tmp 48), type := 0, pos := "law.go:148", after := #[{ on := 0, ground := Go.Ground.data }], guard := none }) (v := .pointer (some ⟨tb, 2, none⟩)) rfl (by kernel_rfl) (by kernel_rfl) (by kernel_rfl) (fun _ _ _ h => h) (Or.inl ⟨by kernel_rfl, ?_⟩) hS ?_
          · intro w5 hSw
            clear hSw hS
            go_simp
          simp only [Act.put, List.setIfInBounds_toArray, List.set_cons_zero, List.set_cons_succ]
          refine wpAnyH_take (i := 2) (oi := { dst := some 50, op := Go.Op.fieldAddr 30 (Go.Operand.tmp 49) 0, type := 0, pos := "law.go:148", after := #[{ on := 1, ground := Go.Ground.data }], guard := none }) (v := .pointer (some ⟨tb, 2, none⟩)) rfl (by kernel_rfl) (by kernel_rfl) (by kernel_rfl) (fun _ _ _ h => h) (Or.inl ⟨by kernel_rfl, ?_⟩) hS ?_
          · intro w5 hSw
            clear hSw hS
            go_simp
          simp only [Act.put, List.setIfInBounds_toArray, List.set_cons_zero, List.set_cons_succ]
          refine wpAnyH_take (i := 3) (oi := { dst := some 51, op := Go.Op.load 3 (Go.Operand.tmp 50), type := 3, pos := "law.go:148", after := #[{ on := 2, ground := Go.Ground.data }], guard := none }) (v := .int .i64 z1) rfl (by kernel_rfl) (by kernel_rfl) (by kernel_rfl) (fun _ _ _ h => h) (Or.inl ⟨by kernel_rfl, ?_⟩) hS ?_
          · intro w5 hSw
            have hc := hSw.cell HCZ.out
            clear hSw hS
            go_simp
          simp only [Act.put, List.setIfInBounds_toArray, List.set_cons_zero, List.set_cons_succ]
          refine wpAnyH_take (i := 4) (oi := { dst := some 52, op := Go.Op.move (Go.Operand.tmp 9), type := 59, pos := "law.go:148", after := #[], guard := none }) (v := .slice (some ⟨fb, 0, none⟩) m cp) rfl (by kernel_rfl) (by kernel_rfl) (by kernel_rfl) (fun _ _ _ h => h) (Or.inl ⟨by kernel_rfl, ?_⟩) hS ?_
          · intro w5 hSw
            clear hSw hS
            go_simp
          simp only [Act.put, List.setIfInBounds_toArray, List.set_cons_zero, List.set_cons_succ]
          refine wpAnyH_take (i := 5) (oi := { dst := some 53, op := Go.Op.move (Go.Operand.tmp 10), type := 92, pos := "law.go:148", after := #[], guard := none }) (v := .slice ga n1 gc) rfl (by kernel_rfl) (by kernel_rfl) (by kernel_rfl) (fun _ _ _ h => h) (Or.inl ⟨by kernel_rfl, ?_⟩) hS ?_
          · intro w5 hSw
            clear hSw hS
            go_simp
          simp only [Act.put, List.setIfInBounds_toArray, List.set_cons_zero, List.set_cons_succ]
          refine wpAnyH_take (i := 6) (oi := { dst := some 54, op := Go.Op.call { callee := Go.Callee.builtin Go.Builtin.len, args := #[Go.Operand.tmp 53], argTypes := #[92] }, type := 3, pos := "law.go:148", after := #[{ on := 5, ground := Go.Ground.data }], guard := none }) (v := .int .i64 (n1 : Int)) rfl (by kernel_rfl) (by kernel_rfl) (by kernel_rfl) (fun _ _ _ h => h) (Or.inl ⟨by kernel_rfl, ?_⟩) hS ?_
          · intro w5 hSw
            clear hSw hS
            go_simp
          simp only [Act.put, List.setIfInBounds_toArray, List.set_cons_zero, List.set_cons_succ]
          refine wpAnyH_take (i := 7) (oi := { dst := some 55, op := Go.Op.slice 59 (Go.Operand.tmp 52) none (some (Go.Operand.tmp 54)) none, type := 59, pos := "law.go:148", after := #[{ on := 4, ground := Go.Ground.data }, { on := 6, ground := Go.Ground.data }], guard := none }) (v := .slice (some ⟨fb, 0, none⟩) n1 cp) rfl (by kernel_rfl) (by kernel_rfl) (by kernel_rfl) (fun _ _ _ h => h) (Or.inl ⟨by kernel_rfl, ?_⟩) hS ?_
          · intro w5 hSw
            clear hSw hS
            have hcz : (n1 : Int) ≤ (cp : Int) := HCP.out
            go_simp
          simp only [Act.put, List.setIfInBounds_toArray, List.set_cons_zero, List.set_cons_succ]
          refine wpAnyH_ready (rs := [8]) (by kernel_rfl) (by simp) ?_
          refine AllReadyH.cons (o := { dst := some 56, op := Go.Op.call { callee := Go.Callee.value (Go.Operand.func 12), args := #[Go.Operand.tmp 51, Go.Operand.tmp 55], argTypes := #[3, 59] }, type := 24, pos := "law.go:148", after := #[{ on := 3, ground := Go.Ground.data }, { on := 7, ground := Go.Ground.data }], guard := none }) rfl (fun K hK => ?_) AllReadyH.nil
          rw [if_pos (by kernel_rfl)]
          go_simp
          refine HNEW.out.mono ?_
          rintro e w5 ⟨na, rfl, hu5, hna⟩
          have HU5 := Hid.of ((Up.refl WN).drew.trans hu5)
          have HNA := Hid.of hna
          clear hu5 hna HNEW
          dsimp only
          refine hK.out _ _ HU5.out (fun hS2 => ?_)
          clear hK K hS
          have hS := hS2
          clear hS2
          refine wpAnyH_take (i := 9) (oi := { dst := some 47, op := Go.Op.move (Go.Operand.tmp 56), type := 24, pos := "law.go:148", after := #[{ on := 8, ground := Go.Ground.data }], guard := none }) (v := .tuple #[.pointer na, .int .i64 q]) rfl (by kernel_rfl) (by kernel_rfl) (by kernel_rfl) (fun _ _ _ h => h) (Or.inl ⟨by kernel_rfl, ?_⟩) hS ?_
          · intro w5 hSw
            clear hSw hS
            go_simp
          simp only [Act.put, List.setIfInBounds_toArray, List.set_cons_zero, List.set_cons_succ]
          refine wpAnyH_take (i := 10) (oi := { dst := some 57, op := Go.Op.extract (Go.Operand.tmp 47) 0, type := 22, pos := "law.go:148", after := #[{ on := 9, ground := Go.Ground.data }], guard := none }) (v := .pointer na) rfl (by kernel_rfl) (by kernel_rfl) (by kernel_rfl) (fun _ _ _ h => h) (Or.inl ⟨by kernel_rfl, ?_⟩) hS ?_
          · intro w5 hSw
            clear hSw hS
            go_simp
          simp only [Act.put, List.setIfInBounds_toArray, List.set_cons_zero, List.set_cons_succ]
          refine wpAnyH_take (i := 11) (oi := { dst := some 58, op := Go.Op.extract (Go.Operand.tmp 47) 1, type := 23, pos := "law.go:148", after := #[{ on := 9, ground := Go.Ground.data }, { on := 12, ground := Go.Ground.gcOnly Go.Departure.lateStores }], guard := none }) (v := .int .i64 q) rfl (by kernel_rfl) (by kernel_rfl) (by kernel_rfl) (fun _ _ _ h => h) (Or.inl ⟨by kernel_rfl, ?_⟩) hS ?_
          · intro w5 hSw
            clear hSw hS
            go_simp
          simp only [Act.put, List.setIfInBounds_toArray, List.set_cons_zero, List.set_cons_succ]
          refine wpAnyH_ready (rs := [12]) (by kernel_rfl) (by simp) ?_
          refine AllReadyH.cons (o := { dst := some 13, op := Go.Op.assign (Go.Operand.tmp 57), type := 22, pos := "law.go:148", after := #[{ on := 10, ground := Go.Ground.data }, { on := 8, ground := Go.Ground.chain }, { on := 0, ground := Go.Ground.phase }, { on := 1, ground := Go.Ground.phase }, { on := 2, ground := Go.Ground.phase }, { on := 3, ground := Go.Ground.phase }, { on := 4, ground := Go.Ground.phase }, { on := 5, ground := Go.Ground.phase }, { on := 6, ground := Go.Ground.phase }, { on := 7, ground := Go.Ground.phase }, { on := 8, ground := Go.Ground.phase }, { on := 9, ground := Go.Ground.phase }, { on := 10, ground := Go.Ground.phase }, { on := 11, ground := Go.Ground.textOnly Go.Departure.lateStores }], guard := none }) rfl (fun K hK => ?_) AllReadyH.nil
          rw [if_pos (by kernel_rfl)]
          go_simp
          refine hK.out _ _ hS (fun hS2 => ?_)
          clear hK K hS
          have hS := hS2
          clear hS2
          refine wpAnyH_ready (rs := [13]) (by kernel_rfl) (by simp) ?_
          refine AllReadyH.cons (o := { dst := some 14, op := Go.Op.assign (Go.Operand.tmp 58), type := 23, pos := "law.go:148", after := #[{ on := 11, ground := Go.Ground.data }, { on := 12, ground := Go.Ground.chain }, { on := 0, ground := Go.Ground.phase }, { on := 1, ground := Go.Ground.phase }, { on := 2, ground := Go.Ground.phase }, { on := 3, ground := Go.Ground.phase }, { on := 4, ground := Go.Ground.phase }, { on := 5, ground := Go.Ground.phase }, { on := 6, ground := Go.Ground.phase }, { on := 7, ground := Go.Ground.phase }, { on := 8, ground := Go.Ground.phase }, { on := 9, ground := Go.Ground.phase }, { on := 10, ground := Go.Ground.phase }, { on := 11, ground := Go.Ground.phase }, { on := 12, ground := Go.Ground.phase }], guard := none }) rfl (fun K hK => ?_) AllReadyH.nil
          rw [if_pos (by kernel_rfl)]
          go_simp
          refine hK.out _ _ hS (fun hS2 => ?_)
          clear hK K hS hS2
          refine wpAnyH_done (by kernel_rfl) ?_ _
          have HCZ5 := HU5.out.cell HCZ.out
          have hRN := RNew_any w5 z1 (.slice ga n1 gc) f1 (FR.of_row (ow_up HMJ.out.b HU5.out))
          rw [HQ.out] at hRN
          go_wp2_with fail
          refine hRN.mono ?_
          rintro e w6 ⟨ra, rfl, hu6, hra⟩
          have HU6 := Hid.of hu6
          have HRA := Hid.of hra
          clear hRN hu6 hra HCZ5 HCZ
          dsimp only
          have hmz : IntKind.i64.wrap ((n1 : Int) + 70) = (m : Int) := by rw [IntKind.wrap_i64]; omega
          have HUW := Hid.of (HU5.out.trans HU6.out)
          have HOC := Hid.of (OC.made (z := z1) (fs := f1) (lo := WN.drew.heap.size) HQ.out HU5.out.size HU6.out HNA.out HRA.out)
          have HK0 := Hid.of (show KL w6 w6 W.heap.size fb cp (f1 ++ List.replicate 70 (77, -77)) 0 from ⟨by
            rw [List.replicate_zero, List.nil_append, List.drop_zero, HGL.out]
            have := ow_up HMJ.out.a HUW.out
            rw [HGL.out] at this
            exact this, Fr.refl _ _⟩)
          have HK0A := Hid.of (ow_up HMJ.out.a HUW.out)
          have HMM0 := Hid.of (HMJ.out.m.up HUW.out)
          have HGG0 := Hid.of (ow_up HMJ.out.b HUW.out)
          have hfm : fb ≠ mb := fun e => HMJ.out.ne (by rw [e]; rfl)
          have hfl : W.heap.size ≤ fb ∧ fb < WN.heap.size := HMJ.out.a.lt fb rfl
          have HUP6 := Hid.of (HMJ.out.up.trans HUW.out)
          clear HNA HRA
          go_wp2
          go_loopw [17, 18] (fun v17 v18 w' => v17 = .bool true ∧ ∃ j : Nat, v18 = .int .i64 (j : Int) ∧ j ≤ m ∧ Hid (KL w6 w' W.heap.size fb cp (f1 ++ List.replicate 70 (77, -77)) j)) (fun _ v18 _ => m - (intOf v18).toNat)
          case atStart => exact ⟨rfl, 0, rfl, by omega, HK0⟩
          case round =>
            clear HK0
            obtain ⟨rfl, j, rfl, hjm, HK⟩ := hrel
            by_cases hlt : j < m
            · have hltz : (j : Int) < (m : Int) := by omega
              have hmcz : (m : Int) ≤ (cp : Int) := by omega
              have hjw : IntKind.i64.wrap ((j : Int) + 1) = (j : Int) + 1 := by
                have := hcpm
                simp only [maxLen] at this
                rw [IntKind.wrap_i64]; omega
              have hjg : j < (f1 ++ List.replicate 70 ((77 : Int), (-77 : Int))).length := by rw [HGL.out]; exact hlt
              by_cases hjn : j < n1
              · have hjnz : (j : Int) < (n1 : Int) := by omega
                have hgcz : (n1 : Int) ≤ (gc : Int) := by omega
                have hjf : j < f1.length := by rw [HN1.out.1]; exact hjn
                obtain ⟨p, hp⟩ : ∃ p, f1[j] = p := ⟨_, rfl⟩
                have hr1 := HK.out.get hjg (q := p) (by rw [List.getElem_append_left hjf, hp])
                have hg1 := HK.out.fr.own HGG0.out (fun g hg e => own_apart HGG0.out HK0A.out (by decide) hg (by rw [e]; rfl))
                obtain ⟨gb, hga, _, hr2⟩ := row_get (by rw [← HN1.out.1] at hg1; exact hg1) hjf
                subst hga
                rw [hp] at hr2
                obtain ⟨qk, qn⟩ := p
                have HRF := Hid.of (show wr.rangeAt fb (j * 2) [.int .i64 qk, .int .i64 qn] from hr1)
                have HRG := Hid.of (show wr.rangeAt gb (j * 2) [.int .i64 qk, .int .i64 qn] from hr2)
                clear hr1 hr2 hg1 hp
                go_wp2_with fail
                refine wp_region_held_drew (S := fun w2 => Up wr w2) (by kernel_rfl) (Up.refl wr).drew (fun hS => ?_)
                refine wpAnyH_take (i := 0) (oi := { dst := some 84, op := Go.Op.move (Go.Operand.tmp 17), type := 4, pos := "law.go:153", after := #[], guard := none }) (v := .bool true) rfl (by kernel_rfl) (by kernel_rfl) (by kernel_rfl) (fun _ _ _ h => h) (Or.inl ⟨by kernel_rfl, ?_⟩) hS ?_
                · intro w5 hSw
                  clear hSw hS
                  go_simp
                simp only [Act.put, List.setIfInBounds_toArray, List.set_cons_zero, List.set_cons_succ]
                refine wpAnyH_take (i := 1) (oi := { dst := some 85, op := Go.Op.move (Go.Operand.tmp 84), type := 4, pos := "law.go:153", after := #[{ on := 0, ground := Go.Ground.data }], guard := none }) (v := .bool true) rfl (by kernel_rfl) (by kernel_rfl) (by kernel_rfl) (fun _ _ _ h => h) (Or.inl ⟨by kernel_rfl, ?_⟩) hS ?_
                · intro w5 hSw
                  clear hSw hS
                  go_simp
                simp only [Act.put, List.setIfInBounds_toArray, List.set_cons_zero, List.set_cons_succ]
                refine wpAnyH_take (i := 2) (oi := { dst := some 86, op := Go.Op.move (Go.Operand.tmp 9), type := 59, pos := "law.go:153", after := #[{ on := 1, ground := Go.Ground.guard }], guard := some (1, true) }) (v := .slice (some ⟨fb, 0, none⟩) m cp) rfl (by kernel_rfl) (by kernel_rfl) (by kernel_rfl) (fun _ _ _ h => h) (Or.inl ⟨by kernel_rfl, ?_⟩) hS ?_
                · intro w5 hSw
                  clear hSw hS
                  go_simp
                simp only [Act.put, List.setIfInBounds_toArray, List.set_cons_zero, List.set_cons_succ]
                refine wpAnyH_take (i := 3) (oi := { dst := some 87, op := Go.Op.move (Go.Operand.tmp 18), type := 3, pos := "law.go:153", after := #[{ on := 1, ground := Go.Ground.guard }], guard := some (1, true) }) (v := .int .i64 (j : Int)) rfl (by kernel_rfl) (by kernel_rfl) (by kernel_rfl) (fun _ _ _ h => h) (Or.inl ⟨by kernel_rfl, ?_⟩) hS ?_
                · intro w5 hSw
                  clear hSw hS
                  go_simp
                simp only [Act.put, List.setIfInBounds_toArray, List.set_cons_zero, List.set_cons_succ]
                refine wpAnyH_take (i := 4) (oi := { dst := some 88, op := Go.Op.indexAddr 59 (Go.Operand.tmp 86) (Go.Operand.tmp 87), type := 0, pos := "law.go:153", after := #[{ on := 2, ground := Go.Ground.data }, { on := 3, ground := Go.Ground.data }, { on := 1, ground := Go.Ground.guard }], guard := some (1, true) }) (v := .pointer (some ⟨fb, j * 2, none⟩)) rfl (by kernel_rfl) (by kernel_rfl) (by kernel_rfl) (fun _ _ _ h => h) (Or.inl ⟨by kernel_rfl, ?_⟩) hS ?_
                · intro w5 hSw
                  clear hSw hS
                  go_simp
                simp only [Act.put, List.setIfInBounds_toArray, List.set_cons_zero, List.set_cons_succ]
                refine wpAnyH_take (i := 5) (oi := { dst := some 89, op := Go.Op.load 58 (Go.Operand.tmp 88), type := 58, pos := "law.go:153", after := #[{ on := 4, ground := Go.Ground.data }, { on := 1, ground := Go.Ground.guard }], guard := some (1, true) }) (v := .agg ([.int .i64 qk, .int .i64 qn]).toArray) rfl (by kernel_rfl) (by kernel_rfl) (by kernel_rfl) (fun _ _ _ h => h) (yieldsIf_load_mid (by kernel_rfl) _ _ rfl (fb) (j * 2) rfl ([.int .i64 qk, .int .i64 qn]) _ (fun w5 hSw => range_up' HRF.out hSw) Try.underlying58 rfl (by kernel_rfl)) hS ?_
                simp only [Act.put, List.setIfInBounds_toArray, List.set_cons_zero, List.set_cons_succ]
                refine wpAnyH_take (i := 6) (oi := { dst := some 90, op := Go.Op.move (Go.Operand.tmp 10), type := 92, pos := "law.go:153", after := #[{ on := 1, ground := Go.Ground.guard }], guard := some (1, true) }) (v := .slice (some ⟨gb, 0, none⟩) n1 gc) rfl (by kernel_rfl) (by kernel_rfl) (by kernel_rfl) (fun _ _ _ h => h) (Or.inl ⟨by kernel_rfl, ?_⟩) hS ?_
                · intro w5 hSw
                  clear hSw hS
                  go_simp
                simp only [Act.put, List.setIfInBounds_toArray, List.set_cons_zero, List.set_cons_succ]
                refine wpAnyH_take (i := 7) (oi := { dst := some 91, op := Go.Op.move (Go.Operand.tmp 18), type := 3, pos := "law.go:153", after := #[{ on := 1, ground := Go.Ground.guard }], guard := some (1, true) }) (v := .int .i64 (j : Int)) rfl (by kernel_rfl) (by kernel_rfl) (by kernel_rfl) (fun _ _ _ h => h) (Or.inl ⟨by kernel_rfl, ?_⟩) hS ?_
                · intro w5 hSw
                  clear hSw hS
                  go_simp
                simp only [Act.put, List.setIfInBounds_toArray, List.set_cons_zero, List.set_cons_succ]
                refine wpAnyH_take (i := 8) (oi := { dst := some 92, op := Go.Op.indexAddr 92 (Go.Operand.tmp 90) (Go.Operand.tmp 91), type := 0, pos := "law.go:153", after := #[{ on := 6, ground := Go.Ground.data }, { on := 7, ground := Go.Ground.data }, { on := 1, ground := Go.Ground.guard }], guard := some (1, true) }) (v := .pointer (some ⟨gb, j * 2, none⟩)) rfl (by kernel_rfl) (by kernel_rfl) (by kernel_rfl) (fun _ _ _ h => h) (Or.inl ⟨by kernel_rfl, ?_⟩) hS ?_
                · intro w5 hSw
                  clear hSw hS
                  go_simp
                simp only [Act.put, List.setIfInBounds_toArray, List.set_cons_zero, List.set_cons_succ]
                refine wpAnyH_take (i := 9) (oi := { dst := some 93, op := Go.Op.fieldAddr 97 (Go.Operand.tmp 92) 0, type := 0, pos := "law.go:153", after := #[{ on := 8, ground := Go.Ground.data }, { on := 1, ground := Go.Ground.guard }], guard := some (1, true) }) (v := .pointer (some ⟨gb, j * 2, none⟩)) rfl (by kernel_rfl) (by kernel_rfl) (by kernel_rfl) (fun _ _ _ h => h) (Or.inl ⟨by kernel_rfl, ?_⟩) hS ?_
                · intro w5 hSw
                  clear hSw hS
                  go_simp
                simp only [Act.put, List.setIfInBounds_toArray, List.set_cons_zero, List.set_cons_succ]
                refine wpAnyH_take (i := 10) (oi := { dst := some 94, op := Go.Op.load 3 (Go.Operand.tmp 93), type := 3, pos := "law.go:153", after := #[{ on := 9, ground := Go.Ground.data }, { on := 1, ground := Go.Ground.guard }], guard := some (1, true) }) (v := .int .i64 qk) rfl (by kernel_rfl) (by kernel_rfl) (by kernel_rfl) (fun _ _ _ h => h) (Or.inl ⟨by kernel_rfl, ?_⟩) hS ?_
                · intro w5 hSw
                  have hc : w5.cell? ⟨gb, j * 2, none⟩ = some (.int .i64 qk) := (range_up' HRG.out hSw) 0 _ rfl
                  clear hSw hS
                  go_simp
                simp only [Act.put, List.setIfInBounds_toArray, List.set_cons_zero, List.set_cons_succ]
                refine wpAnyH_take (i := 11) (oi := { dst := some 95, op := Go.Op.move (Go.Operand.tmp 10), type := 92, pos := "law.go:153", after := #[{ on := 1, ground := Go.Ground.guard }], guard := some (1, true) }) (v := .slice (some ⟨gb, 0, none⟩) n1 gc) rfl (by kernel_rfl) (by kernel_rfl) (by kernel_rfl) (fun _ _ _ h => h) (Or.inl ⟨by kernel_rfl, ?_⟩) hS ?_
                · intro w5 hSw
                  clear hSw hS
                  go_simp
                simp only [Act.put, List.setIfInBounds_toArray, List.set_cons_zero, List.set_cons_succ]
                refine wpAnyH_take (i := 12) (oi := { dst := some 96, op := Go.Op.move (Go.Operand.tmp 18), type := 3, pos := "law.go:153", after := #[{ on := 1, ground := Go.Ground.guard }], guard := some (1, true) }) (v := .int .i64 (j : Int)) rfl (by kernel_rfl) (by kernel_rfl) (by kernel_rfl) (fun _ _ _ h => h) (Or.inl ⟨by kernel_rfl, ?_⟩) hS ?_
                · intro w5 hSw
                  clear hSw hS
                  go_simp
                simp only [Act.put, List.setIfInBounds_toArray, List.set_cons_zero, List.set_cons_succ]
                refine wpAnyH_take (i := 13) (oi := { dst := some 97, op := Go.Op.indexAddr 92 (Go.Operand.tmp 95) (Go.Operand.tmp 96), type := 0, pos := "law.go:153", after := #[{ on := 11, ground := Go.Ground.data }, { on := 12, ground := Go.Ground.data }, { on := 1, ground := Go.Ground.guard }], guard := some (1, true) }) (v := .pointer (some ⟨gb, j * 2, none⟩)) rfl (by kernel_rfl) (by kernel_rfl) (by kernel_rfl) (fun _ _ _ h => h) (Or.inl ⟨by kernel_rfl, ?_⟩) hS ?_
                · intro w5 hSw
                  clear hSw hS
                  go_simp
                simp only [Act.put, List.setIfInBounds_toArray, List.set_cons_zero, List.set_cons_succ]
                refine wpAnyH_take (i := 14) (oi := { dst := some 98, op := Go.Op.fieldAddr 97 (Go.Operand.tmp 97) 1, type := 0, pos := "law.go:153", after := #[{ on := 13, ground := Go.Ground.data }, { on := 1, ground := Go.Ground.guard }], guard := some (1, true) }) (v := .pointer (some ⟨gb, j * 2 + 1, none⟩)) rfl (by kernel_rfl) (by kernel_rfl) (by kernel_rfl) (fun _ _ _ h => h) (Or.inl ⟨by kernel_rfl, ?_⟩) hS ?_
                · intro w5 hSw
                  clear hSw hS
                  go_simp
                simp only [Act.put, List.setIfInBounds_toArray, List.set_cons_zero, List.set_cons_succ]
                refine wpAnyH_take (i := 15) (oi := { dst := some 99, op := Go.Op.load 3 (Go.Operand.tmp 98), type := 3, pos := "law.go:153", after := #[{ on := 14, ground := Go.Ground.data }, { on := 1, ground := Go.Ground.guard }], guard := some (1, true) }) (v := .int .i64 qn) rfl (by kernel_rfl) (by kernel_rfl) (by kernel_rfl) (fun _ _ _ h => h) (Or.inl ⟨by kernel_rfl, ?_⟩) hS ?_
                · intro w5 hSw
                  have hc : w5.cell? ⟨gb, j * 2 + 1, none⟩ = some (.int .i64 qn) := (range_up' HRG.out hSw) 1 _ rfl
                  clear hSw hS
                  go_simp
                simp only [Act.put, List.setIfInBounds_toArray, List.set_cons_zero, List.set_cons_succ]
                refine wpAnyH_take (i := 16) (oi := { dst := some 100, op := Go.Op.build 58 #[(0, Go.Operand.tmp 94), (1, Go.Operand.tmp 99)], type := 58, pos := "law.go:153", after := #[{ on := 10, ground := Go.Ground.data }, { on := 15, ground := Go.Ground.data }, { on := 1, ground := Go.Ground.guard }], guard := some (1, true) }) (v := .agg #[.int .i64 qk, .int .i64 qn]) rfl (by kernel_rfl) (by kernel_rfl) (by kernel_rfl) (fun _ _ _ h => h) (Or.inl ⟨by kernel_rfl, ?_⟩) hS ?_
                · intro w5 hSw
                  clear hSw hS
                  go_simp
                simp only [Act.put, List.setIfInBounds_toArray, List.set_cons_zero, List.set_cons_succ]
                refine wpAnyH_take (i := 17) (oi := { dst := some 101, op := Go.Op.binOp Go.BinOp.eql 58 (Go.Operand.tmp 89) (Go.Operand.tmp 100) 58, type := 4, pos := "law.go:153", after := #[{ on := 5, ground := Go.Ground.data }, { on := 16, ground := Go.Ground.data }, { on := 1, ground := Go.Ground.guard }], guard := some (1, true) }) (v := .bool true) rfl (by kernel_rfl) (by kernel_rfl) (by kernel_rfl) (fun _ _ _ h => h) (Or.inl ⟨by kernel_rfl, ?_⟩) hS ?_
                · intro w5 hSw
                  exact exec_eqlF rfl qk qn rfl rfl w5
                simp only [Act.put, List.setIfInBounds_toArray, List.set_cons_zero, List.set_cons_succ]
                refine wpAnyH_take (i := 18) (oi := { dst := some 102, op := Go.Op.pick (Go.Operand.tmp 85) (Go.Operand.tmp 101) (Go.Operand.const (Go.Value.bool false)), type := 4, pos := "law.go:153", after := #[{ on := 1, ground := Go.Ground.data }, { on := 17, ground := Go.Ground.data }], guard := none }) (v := .bool true) rfl (by kernel_rfl) (by kernel_rfl) (by kernel_rfl) (fun _ _ _ h => h) (Or.inl ⟨by kernel_rfl, ?_⟩) hS ?_
                · intro w5 hSw
                  clear hSw hS
                  go_simp
                simp only [Act.put, List.setIfInBounds_toArray, List.set_cons_zero, List.set_cons_succ]
                refine wpAnyH_ready (rs := [19]) (by kernel_rfl) (by simp) ?_
                refine AllReadyH.cons (o := { dst := some 17, op := Go.Op.assign (Go.Operand.tmp 102), type := 4, pos := "law.go:153", after := #[{ on := 18, ground := Go.Ground.data }, { on := 1, ground := Go.Ground.chain }, { on := 0, ground := Go.Ground.phase }, { on := 1, ground := Go.Ground.phase }, { on := 2, ground := Go.Ground.phase }, { on := 3, ground := Go.Ground.phase }, { on := 4, ground := Go.Ground.phase }, { on := 5, ground := Go.Ground.phase }, { on := 6, ground := Go.Ground.phase }, { on := 7, ground := Go.Ground.phase }, { on := 8, ground := Go.Ground.phase }, { on := 9, ground := Go.Ground.phase }, { on := 10, ground := Go.Ground.phase }, { on := 11, ground := Go.Ground.phase }, { on := 12, ground := Go.Ground.phase }, { on := 13, ground := Go.Ground.phase }, { on := 14, ground := Go.Ground.phase }, { on := 15, ground := Go.Ground.phase }, { on := 16, ground := Go.Ground.phase }, { on := 17, ground := Go.Ground.phase }, { on := 18, ground := Go.Ground.phase }], guard := none }) rfl (fun K hK => ?_) AllReadyH.nil
                rw [if_pos (by kernel_rfl)]
                go_simp
                refine hK.out _ _ hS (fun hS2 => ?_)
                clear hK K hS
                have hS := hS2
                clear hS2
                refine wpAnyH_done (by kernel_rfl) ?_ _
                clear hS
                have HK7 := Hid.of (HK.out.up' (Up.refl wr).drew)
                generalize wr.drew = w7 at *
                clear HK
                go_wp2_with (with_reducible show wpList _ _ _ ({ dst := _, op := Op.store 58 _ _, type := _, pos := _, after := _, guard := _ } :: _) _ _; refine Shut.out ?_)
                show wpList _ _ _ _ _ _
                refine wpList_store_mid rfl 58 _ _ rfl fb (j * 2) #[.int .i64 1, .int .i64 0] rfl rfl (HK7.out.there hjg) (by kernel_rfl) (by simp [Value.oneCell']) ?_
                simp only [Act.put]
                have HN := Hid.of (HK7.out.next hjg)
                clear HK7
                go_wp2
                generalize w7.setCells fb (j * 2) [.int .i64 1, .int .i64 0] = w8 at *
                go_roundw
                case rel => exact ⟨rfl, j + 1, by simp, by omega, HN⟩
                case measure => simp [intOf]; omega
              · have hjnz : ¬ (j : Int) < (n1 : Int) := by omega
                have hr1 := HK.out.get hjg (q := (77, -77)) (by rw [List.getElem_append_right (by rw [HN1.out.1]; omega), List.getElem_replicate])
                have HRF := Hid.of (show wr.rangeAt fb (j * 2) [.int .i64 77, .int .i64 (-77)] from hr1)
                have HMM := Hid.of (HK.out.fr.at HMM0.out (fun e => hfm e.symm))
                clear hr1
                go_wp2_with fail
                refine wp_region_held_drew (S := fun w2 => Up wr w2) (by kernel_rfl) (Up.refl wr).drew (fun hS => ?_)
                refine wpAnyH_take (i := 0) (oi := { dst := some 103, op := Go.Op.move (Go.Operand.tmp 17), type := 4, pos := "law.go:155", after := #[], guard := none }) (v := .bool true) rfl (by kernel_rfl) (by kernel_rfl) (by kernel_rfl) (fun _ _ _ h => h) (Or.inl ⟨by kernel_rfl, ?_⟩) hS ?_
                · intro w5 hSw
                  clear hSw hS
                  go_simp
                simp only [Act.put, List.setIfInBounds_toArray, List.set_cons_zero, List.set_cons_succ]
                refine wpAnyH_take (i := 1) (oi := { dst := some 104, op := Go.Op.move (Go.Operand.tmp 103), type := 4, pos := "law.go:155", after := #[{ on := 0, ground := Go.Ground.data }], guard := none }) (v := .bool true) rfl (by kernel_rfl) (by kernel_rfl) (by kernel_rfl) (fun _ _ _ h => h) (Or.inl ⟨by kernel_rfl, ?_⟩) hS ?_
                · intro w5 hSw
                  clear hSw hS
                  go_simp
                simp only [Act.put, List.setIfInBounds_toArray, List.set_cons_zero, List.set_cons_succ]
                refine wpAnyH_take (i := 2) (oi := { dst := some 105, op := Go.Op.move (Go.Operand.tmp 9), type := 59, pos := "law.go:155", after := #[{ on := 1, ground := Go.Ground.guard }], guard := some (1, true) }) (v := .slice (some ⟨fb, 0, none⟩) m cp) rfl (by kernel_rfl) (by kernel_rfl) (by kernel_rfl) (fun _ _ _ h => h) (Or.inl ⟨by kernel_rfl, ?_⟩) hS ?_
                · intro w5 hSw
                  clear hSw hS
                  go_simp
                simp only [Act.put, List.setIfInBounds_toArray, List.set_cons_zero, List.set_cons_succ]
                refine wpAnyH_take (i := 3) (oi := { dst := some 106, op := Go.Op.move (Go.Operand.tmp 18), type := 3, pos := "law.go:155", after := #[{ on := 1, ground := Go.Ground.guard }], guard := some (1, true) }) (v := .int .i64 (j : Int)) rfl (by kernel_rfl) (by kernel_rfl) (by kernel_rfl) (fun _ _ _ h => h) (Or.inl ⟨by kernel_rfl, ?_⟩) hS ?_
                · intro w5 hSw
                  clear hSw hS
                  go_simp
                simp only [Act.put, List.setIfInBounds_toArray, List.set_cons_zero, List.set_cons_succ]
                refine wpAnyH_take (i := 4) (oi := { dst := some 107, op := Go.Op.indexAddr 59 (Go.Operand.tmp 105) (Go.Operand.tmp 106), type := 0, pos := "law.go:155", after := #[{ on := 2, ground := Go.Ground.data }, { on := 3, ground := Go.Ground.data }, { on := 1, ground := Go.Ground.guard }], guard := some (1, true) }) (v := .pointer (some ⟨fb, j * 2, none⟩)) rfl (by kernel_rfl) (by kernel_rfl) (by kernel_rfl) (fun _ _ _ h => h) (Or.inl ⟨by kernel_rfl, ?_⟩) hS ?_
                · intro w5 hSw
                  clear hSw hS
                  go_simp
                simp only [Act.put, List.setIfInBounds_toArray, List.set_cons_zero, List.set_cons_succ]
                refine wpAnyH_take (i := 5) (oi := { dst := some 108, op := Go.Op.load 58 (Go.Operand.tmp 107), type := 58, pos := "law.go:155", after := #[{ on := 4, ground := Go.Ground.data }, { on := 1, ground := Go.Ground.guard }], guard := some (1, true) }) (v := .agg ([.int .i64 77, .int .i64 (-77)]).toArray) rfl (by kernel_rfl) (by kernel_rfl) (by kernel_rfl) (fun _ _ _ h => h) (yieldsIf_load_mid (by kernel_rfl) _ _ rfl (fb) (j * 2) rfl ([.int .i64 77, .int .i64 (-77)]) _ (fun w5 hSw => range_up' HRF.out hSw) Try.underlying58 rfl (by kernel_rfl)) hS ?_
                simp only [Act.put, List.setIfInBounds_toArray, List.set_cons_zero, List.set_cons_succ]
                refine wpAnyH_take (i := 6) (oi := { dst := some 109, op := Go.Op.load 58 (Go.Operand.tmp 11), type := 58, pos := "law.go:155", after := #[{ on := 1, ground := Go.Ground.guard }], guard := some (1, true) }) (v := .agg ([.int .i64 77, .int .i64 (-77)]).toArray) rfl (by kernel_rfl) (by kernel_rfl) (by kernel_rfl) (fun _ _ _ h => h) (yieldsIf_load_mid (by kernel_rfl) _ _ rfl (mb) (0) rfl ([.int .i64 77, .int .i64 (-77)]) _ (fun w5 hSw => (HMM.out.up hSw).range) Try.underlying58 rfl (by kernel_rfl)) hS ?_
                simp only [Act.put, List.setIfInBounds_toArray, List.set_cons_zero, List.set_cons_succ]
                refine wpAnyH_take (i := 7) (oi := { dst := some 110, op := Go.Op.binOp Go.BinOp.eql 58 (Go.Operand.tmp 108) (Go.Operand.tmp 109) 58, type := 4, pos := "law.go:155", after := #[{ on := 5, ground := Go.Ground.data }, { on := 6, ground := Go.Ground.data }, { on := 1, ground := Go.Ground.guard }], guard := some (1, true) }) (v := .bool true) rfl (by kernel_rfl) (by kernel_rfl) (by kernel_rfl) (fun _ _ _ h => h) (Or.inl ⟨by kernel_rfl, ?_⟩) hS ?_
                · intro w5 hSw
                  exact exec_eqlF rfl 77 (-77) rfl rfl w5
                simp only [Act.put, List.setIfInBounds_toArray, List.set_cons_zero, List.set_cons_succ]
                refine wpAnyH_take (i := 8) (oi := { dst := some 111, op := Go.Op.pick (Go.Operand.tmp 104) (Go.Operand.tmp 110) (Go.Operand.const (Go.Value.bool false)), type := 4, pos := "law.go:155", after := #[{ on := 1, ground := Go.Ground.data }, { on := 7, ground := Go.Ground.data }], guard := none }) (v := .bool true) rfl (by kernel_rfl) (by kernel_rfl) (by kernel_rfl) (fun _ _ _ h => h) (Or.inl ⟨by kernel_rfl, ?_⟩) hS ?_
                · intro w5 hSw
                  clear hSw hS
                  go_simp
                simp only [Act.put, List.setIfInBounds_toArray, List.set_cons_zero, List.set_cons_succ]
                refine wpAnyH_ready (rs := [9]) (by kernel_rfl) (by simp) ?_
                refine AllReadyH.cons (o := { dst := some 17, op := Go.Op.assign (Go.Operand.tmp 111), type := 4, pos := "law.go:155", after := #[{ on := 8, ground := Go.Ground.data }, { on := 1, ground := Go.Ground.chain }, { on := 0, ground := Go.Ground.phase }, { on := 1, ground := Go.Ground.phase }, { on := 2, ground := Go.Ground.phase }, { on := 3, ground := Go.Ground.phase }, { on := 4, ground := Go.Ground.phase }, { on := 5, ground := Go.Ground.phase }, { on := 6, ground := Go.Ground.phase }, { on := 7, ground := Go.Ground.phase }, { on := 8, ground := Go.Ground.phase }], guard := none }) rfl (fun K hK => ?_) AllReadyH.nil
                rw [if_pos (by kernel_rfl)]
                go_simp
                refine hK.out _ _ hS (fun hS2 => ?_)
                clear hK K hS
                have hS := hS2
                clear hS2
                refine wpAnyH_done (by kernel_rfl) ?_ _
                clear hS
                have HK7 := Hid.of (HK.out.up' (Up.refl wr).drew)
                generalize wr.drew = w7 at *
                clear HK
                go_wp2_with (with_reducible show wpList _ _ _ ({ dst := _, op := Op.store 58 _ _, type := _, pos := _, after := _, guard := _ } :: _) _ _; refine Shut.out ?_)
                show wpList _ _ _ _ _ _
                refine wpList_store_mid rfl 58 _ _ rfl fb (j * 2) #[.int .i64 1, .int .i64 0] rfl rfl (HK7.out.there hjg) (by kernel_rfl) (by simp [Value.oneCell']) ?_
                simp only [Act.put]
                have HN := Hid.of (HK7.out.next hjg)
                clear HK7
                go_wp2
                generalize w7.setCells fb (j * 2) [.int .i64 1, .int .i64 0] = w8 at *
                go_roundw
                case rel => exact ⟨rfl, j + 1, by simp, by omega, HN⟩
                case measure => simp [intOf]; omega
            · have hltz : ¬ (j : Int) < (m : Int) := by omega
              obtain ⟨w8, hw8⟩ : ∃ x, x = wr := ⟨_, rfl⟩
              subst hw8
              have HU8 := Hid.of (up_fr HUP6.out HK.out.fr (fun g hg => by subst hg; exact hfl.1))
              have HB8 := Hid.of (HB.out.up' HU8.out)
              have hsz8 := HK.out.fr.size
              rcases HOC.out with ⟨rfl, rfl, hoc⟩ | ⟨xa, ya, rfl, rfl, hoc⟩
              · have HO8 := Hid.of (OC.fr hoc HK.out.fr (fun g hg => by subst hg; exact .inl hfl.2))
                clear hoc HOC
                have hlo : W.heap.size ≤ WN.drew.heap.size := HMJ.out.up.drew.size
                have hpl := lt_of_at HB.out.p
                have hbl := lt_of_at HB.out.b
                have t0 := HB8.out.p.thaw 1
                have t1 := HB8.out.p.thaw 3
                have t2 := HB8.out.p.thaw 5
                have p0 := HB8.out.p.cell (i := 1) rfl
                have p1 := HB8.out.p.cell (i := 3) rfl
                have p2 := HB8.out.p.cell (i := 5) rfl
                have HB9 := Hid.of (((HB8.out.set 1 (.pointer none)).set 3 (.pointer none)).set 5 (.bool false))
                simp only [PS, List.set_cons_zero, List.set_cons_succ] at HB9
                have HO9 := Hid.of (((OC.set HO8.out (pb := pb) (i := 1) (by omega) (.pointer none)).set (pb := pb) (i := 3) (by omega) (.pointer none)).set (pb := pb) (i := 5) (by omega) (.bool false))
                have HX9 := Hid.of ((((HX.out.1.up HU8.out).set (pb := pb) (i := 1) HX.out.2.1 (.pointer none)).set (pb := pb) (i := 3) HX.out.2.1 (.pointer none)).set (pb := pb) (i := 5) HX.out.2.1 (.bool false))
                have HS9 := Hid.of (show w6.heap.size ≤ (((w8.setCell ⟨pb, 1, none⟩ (.pointer none)).setCell ⟨pb, 3, none⟩ (.pointer none)).setCell ⟨pb, 5, none⟩ (.bool false)).heap.size by rw [set_size, set_size, set_size]; exact hsz8)
                clear HB8 HO8 HU8 hsz8 HK HMJ HU5 HU6 HUW HK0A HMM0 HGG0 HUP6
                go_wp2_with (go_at_call 13; refine (num_walk _ _).mono ?_; rintro _ w9 ⟨rfl, h9⟩; obtain rfl := h9.symm; clear h9; dsimp only)
                go_wp2
                clear t0 t1 t2 p0 p1 p2
                generalize ((w8.setCell ⟨pb, 1, none⟩ (.pointer none)).setCell ⟨pb, 3, none⟩ (.pointer none)).setCell ⟨pb, 5, none⟩ (.bool false) = w9 at *
                go_roundw
                case rel => exact .inr (.inr ⟨rfl, Hid.of ⟨_, _, _, _, _, _, _, _, _, _, _, _, _, HB9.out, HX9.out, HO9.out, HX.out.2.1, HX.out.2.2.1, by have := HX.out.2.2.2; omega, HS9.out, by omega, by omega⟩⟩)
                case measure => simp [intOf]
              · have HO8 := Hid.of (OC.fr hoc HK.out.fr (fun g hg => by subst hg; exact .inl hfl.2))
                clear hoc HOC
                have hlo : W.heap.size ≤ WN.drew.heap.size := HMJ.out.up.drew.size
                have hpl := lt_of_at HB.out.p
                have hbl := lt_of_at HB.out.b
                have t0 := HB8.out.p.thaw 1
                have t1 := HB8.out.p.thaw 3
                have t2 := HB8.out.p.thaw 5
                have p0 := HB8.out.p.cell (i := 1) rfl
                have p1 := HB8.out.p.cell (i := 3) rfl
                have p2 := HB8.out.p.cell (i := 5) rfl
                have HB9 := Hid.of (((HB8.out.set 1 (.pointer (some xa))).set 3 (.pointer (some ya))).set 5 (.bool true))
                simp only [PS, List.set_cons_zero, List.set_cons_succ] at HB9
                have HO9 := Hid.of (((OC.set HO8.out (pb := pb) (i := 1) (by omega) (.pointer (some xa))).set (pb := pb) (i := 3) (by omega) (.pointer (some ya))).set (pb := pb) (i := 5) (by omega) (.bool true))
                have HX9 := Hid.of ((((HX.out.1.up HU8.out).set (pb := pb) (i := 1) HX.out.2.1 (.pointer (some xa))).set (pb := pb) (i := 3) HX.out.2.1 (.pointer (some ya))).set (pb := pb) (i := 5) HX.out.2.1 (.bool true))
                have HS9 := Hid.of (show w6.heap.size ≤ (((w8.setCell ⟨pb, 1, none⟩ (.pointer (some xa))).setCell ⟨pb, 3, none⟩ (.pointer (some ya))).setCell ⟨pb, 5, none⟩ (.bool true)).heap.size by rw [set_size, set_size, set_size]; exact hsz8)
                clear HB8 HO8 HU8 hsz8 HK HMJ HU5 HU6 HUW HK0A HMM0 HGG0 HUP6
                go_wp2_with (go_at_call 13; refine (num_walk _ _).mono ?_; rintro _ w9 ⟨rfl, h9⟩; obtain rfl := h9.symm; clear h9; dsimp only)
                go_wp2
                clear t0 t1 t2 p0 p1 p2
                generalize ((w8.setCell ⟨pb, 1, none⟩ (.pointer (some xa))).setCell ⟨pb, 3, none⟩ (.pointer (some ya))).setCell ⟨pb, 5, none⟩ (.bool true) = w9 at *
                go_roundw
                case rel => exact .inr (.inr ⟨rfl, Hid.of ⟨_, _, _, _, _, _, _, _, _, _, _, _, _, HB9.out, HX9.out, HO9.out, HX.out.2.1, HX.out.2.2.1, by have := HX.out.2.2.2; omega, HS9.out, by omega, by omega⟩⟩)
                case measure => simp [intOf]
    · go_wp2
      go_ret2
      exact ⟨pb, rfl, HR.out⟩
end Go.Proofs.Ytdlfkdehfenemaa
