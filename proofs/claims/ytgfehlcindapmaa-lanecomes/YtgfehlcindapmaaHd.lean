import Derived.Test.YtgfehlcindapmaaHc
namespace Go.Proofs.Ytgfehlcindapmaa
open Go.RowKit Go.Conc TextNum
/-- what a fate makes of a message: the bytes and how late they are -/
def posts (d : List UInt8) (f : Int × Int) : List (List UInt8 × Nat) :=
  if f.1 = 0 then [(d, 0)]
  else if f.1 = 1 then []
  else if f.1 = 2 then [(d, 0), (d, f.2.toNat)]
  else if f.1 = 3 then [(d, f.2.toNat)]
  else if f.1 = 4 then [(d.take f.2.toNat, 0)]
  else if f.1 = 5 then [(spl d f.2.toNat, 0)]
  else []
/-- c is what must come of the post p -/
def CoFor (t m : Nat) (c : Co) (p : List UInt8 × Nat) : Prop := c.t = t + p.2 ∧ c.x = (if 0 < p.2 then 0 else 1) ∧ c.m = m ∧ c.d = p.1
def cov (c : Co) : Value := .slice c.a c.d.length c.c
def FoL (t m : Nat) : List Co → List (List UInt8 × Nat) → Prop
  | [], [] => True
  | c :: r, p :: s => CoFor t m c p ∧ FoL t m r s
  | _, _ => False
theorem ltr_for (t n m : Nat) (a : Option Addr) (c : Nat) (d : List UInt8) : CoFor t m (ltr t n m a c d) (d, n) := ⟨rfl, rfl, rfl, rfl⟩
theorem now_for (t m : Nat) (a : Option Addr) (c : Nat) (d : List UInt8) : CoFor t m ⟨t, 1, m, a, c, d⟩ (d, 0) := ⟨rfl, rfl, rfl, rfl⟩
/-- what becomes tells -/
structure Bec (w w' : World) (v' : Value) (D : List Co) (q : Sn) (t m : Nat) (cs : List Co) : Prop where
  co : CO w' 0 v' (cs.foldl putL D)
  fo : FoL t m cs (posts q.d (q.k, q.n))
  rd : ∀ c ∈ cs, (∀ w0, SnOk w0 q → Sb w0 (cov c) c.d) ∨ Ow w' 0 (cov c) c.d
  up : Up w w'
theorem own_cut {w : World} {B b : Nat} {l : List UInt8} {n : Nat} (hn : n = l.length) (h : Ow w B (.slice (some ⟨b, 0, none⟩) (n + 200) (n + 200)) (lnt l)) : Ow w B (.slice (some ⟨b, 0, none⟩) n (n + 200)) l := by
  subst hn
  rcases h.2 with ⟨h, _⟩ | ⟨g', cap, cur, e, hb, hg, hnc, hcm, hcs, ht⟩
  · cases h
  · injection e with e1 e2 e3
    injection e1 with e1
    injection e1 with e1
    subst e1 e3
    refine ⟨by rw [cb_length, Nat.mul_one], .inr ⟨b, _, cur, rfl, hb, hg, by omega, hcm, hcs, ?_⟩⟩
    have h2 := congrArg (List.take l.length) ht
    rw [List.take_take, lnt_len, show cb (lnt l) = cb l ++ cb (List.replicate 200 199) from by unfold lnt cb; exact List.map_append] at h2
    rw [show min l.length ((l.length + 200) * 1) = l.length * 1 by omega, List.take_left' (by rw [cb_length])] at h2
    exact h2
set_option maxRecDepth 100000 in
set_option maxHeartbeats 4000000 in
theorem becomes_1 (w : World) (v : Value) (D : List Co) (hD : CO w 0 v D) (_hl : D.length ≤ 900) (g i : Nat) (a : Option Addr) (c : Nat) (d : List UInt8) (n t m : Nat) (hq : SnOk w ⟨g, i, a, c, d, 1, (n : Int)⟩) (_ht : t + n ≤ 4611686018427387904) :
    Calls Try.prog 27 #[v, .agg (snc ⟨g, i, a, c, d, 1, (n : Int)⟩).toArray, .int .i64 (t : Int), .int .i64 (m : Int)] w fun e w' => ∃ v' cs, e = .returned v' ∧ Bec w w' v' D ⟨g, i, a, c, d, 1, (n : Int)⟩ t m cs := by
  have HD := Hid.of hD
  obtain ⟨va, vc, rfl, _⟩ := hD.shape
  have HQ := Hid.of hq
  have HA := Hid.of (show At ((w.alloc (.cells #[.int .i64 (g : Int), .int .i64 (i : Int), .slice a d.length c, .int .i64 1, .int .i64 (n : Int)] 65)).alloc (.cells #[.int .i64 0, .int .i64 0, .int .i64 0, .slice none 0 0] 103)) w.heap.size 65 [.int .i64 (g : Int), .int .i64 (i : Int), .slice a d.length c, .int .i64 1, .int .i64 (n : Int)] from (at_new w 65 [.int .i64 (g : Int), .int .i64 (i : Int), .slice a d.length c, .int .i64 1, .int .i64 (n : Int)]).up ((Up.refl _).alloc (.cells #[.int .i64 0, .int .i64 0, .int .i64 0, .slice none 0 0] 103)))
  have hsz : (w.alloc (.cells #[.int .i64 (g : Int), .int .i64 (i : Int), .slice a d.length c, .int .i64 1, .int .i64 (n : Int)] 65)).heap.size = w.heap.size + 1 := by show (w.heap.push _).size = _; rw [Array.size_push]
  have HB := Hid.of (show At ((w.alloc (.cells #[.int .i64 (g : Int), .int .i64 (i : Int), .slice a d.length c, .int .i64 1, .int .i64 (n : Int)] 65)).alloc (.cells #[.int .i64 0, .int .i64 0, .int .i64 0, .slice none 0 0] 103)) (w.heap.size + 1) 103 [.int .i64 0, .int .i64 0, .int .i64 0, .slice none 0 0] from by
    have := at_new (w.alloc (.cells #[.int .i64 (g : Int), .int .i64 (i : Int), .slice a d.length c, .int .i64 1, .int .i64 (n : Int)] 65)) 103 [.int .i64 0, .int .i64 0, .int .i64 0, .slice none 0 0]
    rw [hsz] at this
    exact this)
  have HU := Hid.of (((Up.refl w).alloc (.cells #[.int .i64 (g : Int), .int .i64 (i : Int), .slice a d.length c, .int .i64 1, .int .i64 (n : Int)] 65)).alloc (.cells #[.int .i64 0, .int .i64 0, .int .i64 0, .slice none 0 0] 103))
  have c2 := HA.out.cell (i := 2) rfl
  clear hD hq
  show Calls Try.prog 27 #[.slice va D.length vc, .agg #[.int .i64 (g : Int), .int .i64 (i : Int), .slice a d.length c, .int .i64 1, .int .i64 (n : Int)], .int .i64 (t : Int), .int .i64 (m : Int)] w _
  go_enter Try.func27, Try.ntmps27
  go_wp2_with (with_reducible show wpList _ _ _ ({ dst := _, op := Op.store 103 _ _, type := _, pos := _, after := _, guard := _ } :: _) _ _; refine Shut.out ?_)
  show wpList _ _ _ _ _ _
  clear hsz c2
  generalize (w.alloc (.cells #[.int .i64 (g : Int), .int .i64 (i : Int), .slice a d.length c, .int .i64 1, .int .i64 (n : Int)] 65)).alloc (.cells #[.int .i64 0, .int .i64 0, .int .i64 0, .slice none 0 0] 103) = W0 at *
  generalize hb0 : w.heap.size = b0 at *
  refine wpList_store_at rfl 103 _ _ rfl (b0 + 1) HB.out [.int .i64 (t : Int), .int .i64 1, .int .i64 (m : Int), .slice a d.length c] rfl rfl rfl (by kernel_rfl) (by simp [Value.oneCell']) ?_
  intro w1 a1 g1
  have HX := Hid.of a1
  have HA1 := Hid.of (HA.out.by g1 (by simp))
  have HU1 := Hid.of (HU.out.by g1 (fun g hg => by have := Option.some.inj hg; omega))
  have c3 := HA1.out.cell (i := 3) rfl
  have c4 := HA1.out.cell (i := 4) rfl
  have c2 := HA1.out.cell (i := 2) rfl
  clear HA HB HU a1 g1
  simp only [Act.put]
  go_wp2
  go_ret
  exact ⟨_, [], rfl, ⟨ow_up HD.out HU1.out, trivial, fun c hc => (by cases hc), HU1.out⟩⟩
set_option maxRecDepth 100000 in
set_option maxHeartbeats 4000000 in
theorem becomes_0 (w : World) (v : Value) (D : List Co) (hD : CO w 0 v D) (hl : D.length ≤ 900) (g i : Nat) (a : Option Addr) (c : Nat) (d : List UInt8) (n t m : Nat) (hq : SnOk w ⟨g, i, a, c, d, 0, (n : Int)⟩) (_ht : t + n ≤ 4611686018427387904) :
    Calls Try.prog 27 #[v, .agg (snc ⟨g, i, a, c, d, 0, (n : Int)⟩).toArray, .int .i64 (t : Int), .int .i64 (m : Int)] w fun e w' => ∃ v' cs, e = .returned v' ∧ Bec w w' v' D ⟨g, i, a, c, d, 0, (n : Int)⟩ t m cs := by
  have HD := Hid.of hD
  obtain ⟨va, vc, rfl, _⟩ := hD.shape
  have HQ := Hid.of hq
  have HA := Hid.of (show At ((w.alloc (.cells #[.int .i64 (g : Int), .int .i64 (i : Int), .slice a d.length c, .int .i64 0, .int .i64 (n : Int)] 65)).alloc (.cells #[.int .i64 0, .int .i64 0, .int .i64 0, .slice none 0 0] 103)) w.heap.size 65 [.int .i64 (g : Int), .int .i64 (i : Int), .slice a d.length c, .int .i64 0, .int .i64 (n : Int)] from (at_new w 65 [.int .i64 (g : Int), .int .i64 (i : Int), .slice a d.length c, .int .i64 0, .int .i64 (n : Int)]).up ((Up.refl _).alloc (.cells #[.int .i64 0, .int .i64 0, .int .i64 0, .slice none 0 0] 103)))
  have hsz : (w.alloc (.cells #[.int .i64 (g : Int), .int .i64 (i : Int), .slice a d.length c, .int .i64 0, .int .i64 (n : Int)] 65)).heap.size = w.heap.size + 1 := by show (w.heap.push _).size = _; rw [Array.size_push]
  have HB := Hid.of (show At ((w.alloc (.cells #[.int .i64 (g : Int), .int .i64 (i : Int), .slice a d.length c, .int .i64 0, .int .i64 (n : Int)] 65)).alloc (.cells #[.int .i64 0, .int .i64 0, .int .i64 0, .slice none 0 0] 103)) (w.heap.size + 1) 103 [.int .i64 0, .int .i64 0, .int .i64 0, .slice none 0 0] from by
    have := at_new (w.alloc (.cells #[.int .i64 (g : Int), .int .i64 (i : Int), .slice a d.length c, .int .i64 0, .int .i64 (n : Int)] 65)) 103 [.int .i64 0, .int .i64 0, .int .i64 0, .slice none 0 0]
    rw [hsz] at this
    exact this)
  have HU := Hid.of (((Up.refl w).alloc (.cells #[.int .i64 (g : Int), .int .i64 (i : Int), .slice a d.length c, .int .i64 0, .int .i64 (n : Int)] 65)).alloc (.cells #[.int .i64 0, .int .i64 0, .int .i64 0, .slice none 0 0] 103))
  have c2 := HA.out.cell (i := 2) rfl
  clear hD hq
  show Calls Try.prog 27 #[.slice va D.length vc, .agg #[.int .i64 (g : Int), .int .i64 (i : Int), .slice a d.length c, .int .i64 0, .int .i64 (n : Int)], .int .i64 (t : Int), .int .i64 (m : Int)] w _
  go_enter Try.func27, Try.ntmps27
  go_wp2_with (with_reducible show wpList _ _ _ ({ dst := _, op := Op.store 103 _ _, type := _, pos := _, after := _, guard := _ } :: _) _ _; refine Shut.out ?_)
  show wpList _ _ _ _ _ _
  clear hsz c2
  generalize (w.alloc (.cells #[.int .i64 (g : Int), .int .i64 (i : Int), .slice a d.length c, .int .i64 0, .int .i64 (n : Int)] 65)).alloc (.cells #[.int .i64 0, .int .i64 0, .int .i64 0, .slice none 0 0] 103) = W0 at *
  generalize hb0 : w.heap.size = b0 at *
  refine wpList_store_at rfl 103 _ _ rfl (b0 + 1) HB.out [.int .i64 (t : Int), .int .i64 1, .int .i64 (m : Int), .slice a d.length c] rfl rfl rfl (by kernel_rfl) (by simp [Value.oneCell']) ?_
  intro w1 a1 g1
  have HX := Hid.of a1
  have HA1 := Hid.of (HA.out.by g1 (by simp))
  have HU1 := Hid.of (HU.out.by g1 (fun g hg => by have := Option.some.inj hg; omega))
  have c3 := HA1.out.cell (i := 3) rfl
  have c4 := HA1.out.cell (i := 4) rfl
  have c2 := HA1.out.cell (i := 2) rfl
  clear HA HB HU a1 g1
  simp only [Act.put]
  go_wp2_with (with_reducible show wpList _ _ _ ({ dst := _, op := Op.load 103 _, type := _, pos := _, after := _, guard := _ } :: _) _ _; refine Shut.out ?_)
  show wpList _ _ _ _ _ _
  refine wpList_load_mid rfl 103 _ rfl (b0 + 1) (0) rfl ([.int .i64 (t : Int), .int .i64 1, .int .i64 (m : Int), .slice a d.length c]) _ (HX.out.range) Try.underlying103 rfl (by kernel_rfl) ?_
  simp only [Act.put, List.setIfInBounds_toArray, List.set_cons_zero, List.set_cons_succ]
  go_wp2_with fail
  refine (put_walk w1 va vc D ⟨t, 1, m, a, c, d⟩ (CO.read (ow_up HD.out HU1.out)) (by omega)).mono ?_
  rintro e wy ⟨vy, rfl, o5, u5⟩
  have Hvy := Hid.of (ow_base o5 (Nat.zero_le _))
  have HUvy := Hid.of (HU1.out.trans u5)
  go_wp2
  go_ret
  refine ⟨_, [⟨t, 1, m, a, c, d⟩], rfl, ⟨Hvy.out, ⟨now_for _ _ _ _ _, trivial⟩, ?_, HUvy.out⟩⟩
  intro c' hc'
  simp only [List.mem_cons, List.not_mem_nil, or_false] at hc'
  subst hc'
  exact .inl fun w0 h0 => h0.sb
set_option maxRecDepth 100000 in
set_option maxHeartbeats 4000000 in
theorem becomes_3 (w : World) (v : Value) (D : List Co) (hD : CO w 0 v D) (hl : D.length ≤ 900) (g i : Nat) (a : Option Addr) (c : Nat) (d : List UInt8) (n t m : Nat) (hq : SnOk w ⟨g, i, a, c, d, 3, (n : Int)⟩) (ht : t + n ≤ 4611686018427387904) :
    Calls Try.prog 27 #[v, .agg (snc ⟨g, i, a, c, d, 3, (n : Int)⟩).toArray, .int .i64 (t : Int), .int .i64 (m : Int)] w fun e w' => ∃ v' cs, e = .returned v' ∧ Bec w w' v' D ⟨g, i, a, c, d, 3, (n : Int)⟩ t m cs := by
  have HD := Hid.of hD
  obtain ⟨va, vc, rfl, _⟩ := hD.shape
  have HQ := Hid.of hq
  have HA := Hid.of (show At ((w.alloc (.cells #[.int .i64 (g : Int), .int .i64 (i : Int), .slice a d.length c, .int .i64 3, .int .i64 (n : Int)] 65)).alloc (.cells #[.int .i64 0, .int .i64 0, .int .i64 0, .slice none 0 0] 103)) w.heap.size 65 [.int .i64 (g : Int), .int .i64 (i : Int), .slice a d.length c, .int .i64 3, .int .i64 (n : Int)] from (at_new w 65 [.int .i64 (g : Int), .int .i64 (i : Int), .slice a d.length c, .int .i64 3, .int .i64 (n : Int)]).up ((Up.refl _).alloc (.cells #[.int .i64 0, .int .i64 0, .int .i64 0, .slice none 0 0] 103)))
  have hsz : (w.alloc (.cells #[.int .i64 (g : Int), .int .i64 (i : Int), .slice a d.length c, .int .i64 3, .int .i64 (n : Int)] 65)).heap.size = w.heap.size + 1 := by show (w.heap.push _).size = _; rw [Array.size_push]
  have HB := Hid.of (show At ((w.alloc (.cells #[.int .i64 (g : Int), .int .i64 (i : Int), .slice a d.length c, .int .i64 3, .int .i64 (n : Int)] 65)).alloc (.cells #[.int .i64 0, .int .i64 0, .int .i64 0, .slice none 0 0] 103)) (w.heap.size + 1) 103 [.int .i64 0, .int .i64 0, .int .i64 0, .slice none 0 0] from by
    have := at_new (w.alloc (.cells #[.int .i64 (g : Int), .int .i64 (i : Int), .slice a d.length c, .int .i64 3, .int .i64 (n : Int)] 65)) 103 [.int .i64 0, .int .i64 0, .int .i64 0, .slice none 0 0]
    rw [hsz] at this
    exact this)
  have HU := Hid.of (((Up.refl w).alloc (.cells #[.int .i64 (g : Int), .int .i64 (i : Int), .slice a d.length c, .int .i64 3, .int .i64 (n : Int)] 65)).alloc (.cells #[.int .i64 0, .int .i64 0, .int .i64 0, .slice none 0 0] 103))
  have c2 := HA.out.cell (i := 2) rfl
  clear hD hq
  show Calls Try.prog 27 #[.slice va D.length vc, .agg #[.int .i64 (g : Int), .int .i64 (i : Int), .slice a d.length c, .int .i64 3, .int .i64 (n : Int)], .int .i64 (t : Int), .int .i64 (m : Int)] w _
  go_enter Try.func27, Try.ntmps27
  go_wp2_with (with_reducible show wpList _ _ _ ({ dst := _, op := Op.store 103 _ _, type := _, pos := _, after := _, guard := _ } :: _) _ _; refine Shut.out ?_)
  show wpList _ _ _ _ _ _
  clear hsz c2
  generalize (w.alloc (.cells #[.int .i64 (g : Int), .int .i64 (i : Int), .slice a d.length c, .int .i64 3, .int .i64 (n : Int)] 65)).alloc (.cells #[.int .i64 0, .int .i64 0, .int .i64 0, .slice none 0 0] 103) = W0 at *
  generalize hb0 : w.heap.size = b0 at *
  refine wpList_store_at rfl 103 _ _ rfl (b0 + 1) HB.out [.int .i64 (t : Int), .int .i64 1, .int .i64 (m : Int), .slice a d.length c] rfl rfl rfl (by kernel_rfl) (by simp [Value.oneCell']) ?_
  intro w1 a1 g1
  have HX := Hid.of a1
  have HA1 := Hid.of (HA.out.by g1 (by simp))
  have HU1 := Hid.of (HU.out.by g1 (fun g hg => by have := Option.some.inj hg; omega))
  have c3 := HA1.out.cell (i := 3) rfl
  have c4 := HA1.out.cell (i := 4) rfl
  have c2 := HA1.out.cell (i := 2) rfl
  clear HA HB HU a1 g1
  simp only [Act.put]
  go_wp2_with fail
  refine (later_walk w1 t n m a c d ht).mono ?_
  rintro e wl ⟨rfl, ul⟩
  have HUl := Hid.of (HU1.out.trans ul)
  clear ul
  dsimp only
  go_wp2_with fail
  refine (put_walk wl va vc D (ltr t n m a c d) (CO.read (ow_up HD.out HUl.out)) (by omega)).mono ?_
  rintro e wy ⟨vy, rfl, o5, u5⟩
  have Hvy := Hid.of (ow_base o5 (Nat.zero_le _))
  have HUvy := Hid.of (HUl.out.trans u5)
  go_wp2
  go_ret
  refine ⟨_, [ltr t n m a c d], rfl, ⟨Hvy.out, ⟨ltr_for t n m a c d, trivial⟩, ?_, HUvy.out⟩⟩
  intro c' hc'
  simp only [List.mem_cons, List.not_mem_nil, or_false] at hc'
  subst hc'
  exact .inl fun w0 h0 => h0.sb
set_option maxRecDepth 100000 in
set_option maxHeartbeats 4000000 in
theorem becomes_2 (w : World) (v : Value) (D : List Co) (hD : CO w 0 v D) (hl : D.length ≤ 900) (g i : Nat) (a : Option Addr) (c : Nat) (d : List UInt8) (n t m : Nat) (hq : SnOk w ⟨g, i, a, c, d, 2, (n : Int)⟩) (ht : t + n ≤ 4611686018427387904) :
    Calls Try.prog 27 #[v, .agg (snc ⟨g, i, a, c, d, 2, (n : Int)⟩).toArray, .int .i64 (t : Int), .int .i64 (m : Int)] w fun e w' => ∃ v' cs, e = .returned v' ∧ Bec w w' v' D ⟨g, i, a, c, d, 2, (n : Int)⟩ t m cs := by
  have HD := Hid.of hD
  obtain ⟨va, vc, rfl, _⟩ := hD.shape
  have HQ := Hid.of hq
  have HA := Hid.of (show At ((w.alloc (.cells #[.int .i64 (g : Int), .int .i64 (i : Int), .slice a d.length c, .int .i64 2, .int .i64 (n : Int)] 65)).alloc (.cells #[.int .i64 0, .int .i64 0, .int .i64 0, .slice none 0 0] 103)) w.heap.size 65 [.int .i64 (g : Int), .int .i64 (i : Int), .slice a d.length c, .int .i64 2, .int .i64 (n : Int)] from (at_new w 65 [.int .i64 (g : Int), .int .i64 (i : Int), .slice a d.length c, .int .i64 2, .int .i64 (n : Int)]).up ((Up.refl _).alloc (.cells #[.int .i64 0, .int .i64 0, .int .i64 0, .slice none 0 0] 103)))
  have hsz : (w.alloc (.cells #[.int .i64 (g : Int), .int .i64 (i : Int), .slice a d.length c, .int .i64 2, .int .i64 (n : Int)] 65)).heap.size = w.heap.size + 1 := by show (w.heap.push _).size = _; rw [Array.size_push]
  have HB := Hid.of (show At ((w.alloc (.cells #[.int .i64 (g : Int), .int .i64 (i : Int), .slice a d.length c, .int .i64 2, .int .i64 (n : Int)] 65)).alloc (.cells #[.int .i64 0, .int .i64 0, .int .i64 0, .slice none 0 0] 103)) (w.heap.size + 1) 103 [.int .i64 0, .int .i64 0, .int .i64 0, .slice none 0 0] from by
    have := at_new (w.alloc (.cells #[.int .i64 (g : Int), .int .i64 (i : Int), .slice a d.length c, .int .i64 2, .int .i64 (n : Int)] 65)) 103 [.int .i64 0, .int .i64 0, .int .i64 0, .slice none 0 0]
    rw [hsz] at this
    exact this)
  have HU := Hid.of (((Up.refl w).alloc (.cells #[.int .i64 (g : Int), .int .i64 (i : Int), .slice a d.length c, .int .i64 2, .int .i64 (n : Int)] 65)).alloc (.cells #[.int .i64 0, .int .i64 0, .int .i64 0, .slice none 0 0] 103))
  have c2 := HA.out.cell (i := 2) rfl
  clear hD hq
  show Calls Try.prog 27 #[.slice va D.length vc, .agg #[.int .i64 (g : Int), .int .i64 (i : Int), .slice a d.length c, .int .i64 2, .int .i64 (n : Int)], .int .i64 (t : Int), .int .i64 (m : Int)] w _
  go_enter Try.func27, Try.ntmps27
  go_wp2_with (with_reducible show wpList _ _ _ ({ dst := _, op := Op.store 103 _ _, type := _, pos := _, after := _, guard := _ } :: _) _ _; refine Shut.out ?_)
  show wpList _ _ _ _ _ _
  clear hsz c2
  generalize (w.alloc (.cells #[.int .i64 (g : Int), .int .i64 (i : Int), .slice a d.length c, .int .i64 2, .int .i64 (n : Int)] 65)).alloc (.cells #[.int .i64 0, .int .i64 0, .int .i64 0, .slice none 0 0] 103) = W0 at *
  generalize hb0 : w.heap.size = b0 at *
  refine wpList_store_at rfl 103 _ _ rfl (b0 + 1) HB.out [.int .i64 (t : Int), .int .i64 1, .int .i64 (m : Int), .slice a d.length c] rfl rfl rfl (by kernel_rfl) (by simp [Value.oneCell']) ?_
  intro w1 a1 g1
  have HX := Hid.of a1
  have HA1 := Hid.of (HA.out.by g1 (by simp))
  have HU1 := Hid.of (HU.out.by g1 (fun g hg => by have := Option.some.inj hg; omega))
  have c3 := HA1.out.cell (i := 3) rfl
  have c4 := HA1.out.cell (i := 4) rfl
  have c2 := HA1.out.cell (i := 2) rfl
  clear HA HB HU a1 g1
  simp only [Act.put]
  go_wp2_with (with_reducible show wpList _ _ _ ({ dst := _, op := Op.load 103 _, type := _, pos := _, after := _, guard := _ } :: _) _ _; refine Shut.out ?_)
  show wpList _ _ _ _ _ _
  refine wpList_load_mid rfl 103 _ rfl (b0 + 1) (0) rfl ([.int .i64 (t : Int), .int .i64 1, .int .i64 (m : Int), .slice a d.length c]) _ (HX.out.range) Try.underlying103 rfl (by kernel_rfl) ?_
  simp only [Act.put, List.setIfInBounds_toArray, List.set_cons_zero, List.set_cons_succ]
  go_wp2_with fail
  refine (put_walk w1 va vc D ⟨t, 1, m, a, c, d⟩ (CO.read (ow_up HD.out HU1.out)) (by omega)).mono ?_
  rintro e w2 ⟨vx, rfl, o5, u5⟩
  have Hvx := Hid.of (ow_base o5 (Nat.zero_le _))
  have HUvx := Hid.of (HU1.out.trans u5)
  obtain ⟨xa, xc, rfl, _⟩ := o5.shape
  have c3 := (HA1.out.up u5).cell (i := 3) rfl
  have c4 := (HA1.out.up u5).cell (i := 4) rfl
  have c2 := (HA1.out.up u5).cell (i := 2) rfl
  have hl2 := Nat.le_trans (putL_len D ⟨t, 1, m, a, c, d⟩) (Nat.add_le_add_right hl 1)
  clear o5 u5
  dsimp only
  go_wp2_with fail
  refine (later_walk w2 t n m a c d ht).mono ?_
  rintro e wl ⟨rfl, ul⟩
  have HUl := Hid.of (HUvx.out.trans ul)
  dsimp only
  go_wp2_with fail
  refine (put_walk wl xa xc (putL D ⟨t, 1, m, a, c, d⟩) (ltr t n m a c d) (CO.read (ow_up Hvx.out ul)) (by omega)).mono ?_
  rintro e wy ⟨vy, rfl, o5, u5⟩
  have Hvy := Hid.of (ow_base o5 (Nat.zero_le _))
  have HUvy := Hid.of (HUl.out.trans u5)
  go_wp2
  go_ret
  refine ⟨_, [⟨t, 1, m, a, c, d⟩, ltr t n m a c d], rfl, ⟨Hvy.out, ⟨now_for _ _ _ _ _, ltr_for t n m a c d, trivial⟩, ?_, HUvy.out⟩⟩
  intro c' hc'
  simp only [List.mem_cons, List.not_mem_nil, or_false] at hc'
  rcases hc' with rfl | rfl
  · exact .inl fun w0 h0 => h0.sb
  exact .inl fun w0 h0 => h0.sb
set_option maxRecDepth 100000 in
set_option maxHeartbeats 4000000 in
theorem becomes_4a (w : World) (v : Value) (D : List Co) (hD : CO w 0 v D) (hl : D.length ≤ 900) (g i : Nat) (a : Option Addr) (c : Nat) (d : List UInt8) (n t m : Nat) (hq : SnOk w ⟨g, i, a, c, d, 4, (n : Int)⟩) (_ht : t + n ≤ 4611686018427387904) (hnl : n < d.length) :
    Calls Try.prog 27 #[v, .agg (snc ⟨g, i, a, c, d, 4, (n : Int)⟩).toArray, .int .i64 (t : Int), .int .i64 (m : Int)] w fun e w' => ∃ v' cs, e = .returned v' ∧ Bec w w' v' D ⟨g, i, a, c, d, 4, (n : Int)⟩ t m cs := by
  obtain ⟨x, hx⟩ : ∃ x, d.take n = x := ⟨_, rfl⟩
  have hxl : x.length = n := by rw [← hx, List.length_take]; omega
  subst hxl
  have HP := Hid.of (show posts d (4, ((x.length : Nat) : Int)) = [(x, 0)] from by simp [posts, hx])
  have HXS := Hid.of (show ∀ w0 g i k z, SnOk w0 ⟨g, i, a, c, d, k, z⟩ → Sb w0 (.slice a x.length c) x from fun w0 g i k z h0 => by
    have h1 : Sb w0 (.slice a d.length c) d := h0.sb
    have := Sb.take' h1 x.length (by omega)
    rwa [hx] at this)
  have hcap : (x.length : Int) ≤ (c : Int) := by
    have h0 : Sb w (.slice a d.length c) d := hq.sb
    obtain ⟨_, _, e, h1, _⟩ := h0
    injection e with e1 e2 e3
    omega
  have hnz : (x.length : Int) < (d.length : Int) := by omega
  obtain ⟨bq, oq, rfl, hdd⟩ := hq.sb.cell hnl
  clear hdd hx hnl
  have HD := Hid.of hD
  obtain ⟨va, vc, rfl, _⟩ := hD.shape
  have HQ := Hid.of hq
  have HA := Hid.of (show At ((w.alloc (.cells #[.int .i64 (g : Int), .int .i64 (i : Int), .slice (some ⟨bq, oq, none⟩) d.length c, .int .i64 4, .int .i64 (x.length : Int)] 65)).alloc (.cells #[.int .i64 0, .int .i64 0, .int .i64 0, .slice none 0 0] 103)) w.heap.size 65 [.int .i64 (g : Int), .int .i64 (i : Int), .slice (some ⟨bq, oq, none⟩) d.length c, .int .i64 4, .int .i64 (x.length : Int)] from (at_new w 65 [.int .i64 (g : Int), .int .i64 (i : Int), .slice (some ⟨bq, oq, none⟩) d.length c, .int .i64 4, .int .i64 (x.length : Int)]).up ((Up.refl _).alloc (.cells #[.int .i64 0, .int .i64 0, .int .i64 0, .slice none 0 0] 103)))
  have hsz : (w.alloc (.cells #[.int .i64 (g : Int), .int .i64 (i : Int), .slice (some ⟨bq, oq, none⟩) d.length c, .int .i64 4, .int .i64 (x.length : Int)] 65)).heap.size = w.heap.size + 1 := by show (w.heap.push _).size = _; rw [Array.size_push]
  have HB := Hid.of (show At ((w.alloc (.cells #[.int .i64 (g : Int), .int .i64 (i : Int), .slice (some ⟨bq, oq, none⟩) d.length c, .int .i64 4, .int .i64 (x.length : Int)] 65)).alloc (.cells #[.int .i64 0, .int .i64 0, .int .i64 0, .slice none 0 0] 103)) (w.heap.size + 1) 103 [.int .i64 0, .int .i64 0, .int .i64 0, .slice none 0 0] from by
    have := at_new (w.alloc (.cells #[.int .i64 (g : Int), .int .i64 (i : Int), .slice (some ⟨bq, oq, none⟩) d.length c, .int .i64 4, .int .i64 (x.length : Int)] 65)) 103 [.int .i64 0, .int .i64 0, .int .i64 0, .slice none 0 0]
    rw [hsz] at this
    exact this)
  have HU := Hid.of (((Up.refl w).alloc (.cells #[.int .i64 (g : Int), .int .i64 (i : Int), .slice (some ⟨bq, oq, none⟩) d.length c, .int .i64 4, .int .i64 (x.length : Int)] 65)).alloc (.cells #[.int .i64 0, .int .i64 0, .int .i64 0, .slice none 0 0] 103))
  have c2 := HA.out.cell (i := 2) rfl
  clear hD hq
  show Calls Try.prog 27 #[.slice va D.length vc, .agg #[.int .i64 (g : Int), .int .i64 (i : Int), .slice (some ⟨bq, oq, none⟩) d.length c, .int .i64 4, .int .i64 (x.length : Int)], .int .i64 (t : Int), .int .i64 (m : Int)] w _
  go_enter Try.func27, Try.ntmps27
  go_wp2_with (with_reducible show wpList _ _ _ ({ dst := _, op := Op.store 103 _ _, type := _, pos := _, after := _, guard := _ } :: _) _ _; refine Shut.out ?_)
  show wpList _ _ _ _ _ _
  clear hsz c2
  generalize (w.alloc (.cells #[.int .i64 (g : Int), .int .i64 (i : Int), .slice (some ⟨bq, oq, none⟩) d.length c, .int .i64 4, .int .i64 (x.length : Int)] 65)).alloc (.cells #[.int .i64 0, .int .i64 0, .int .i64 0, .slice none 0 0] 103) = W0 at *
  generalize hb0 : w.heap.size = b0 at *
  refine wpList_store_at rfl 103 _ _ rfl (b0 + 1) HB.out [.int .i64 (t : Int), .int .i64 1, .int .i64 (m : Int), .slice (some ⟨bq, oq, none⟩) d.length c] rfl rfl rfl (by kernel_rfl) (by simp [Value.oneCell']) ?_
  intro w1 a1 g1
  have HX := Hid.of a1
  have HA1 := Hid.of (HA.out.by g1 (by simp))
  have HU1 := Hid.of (HU.out.by g1 (fun g hg => by have := Option.some.inj hg; omega))
  have c3 := HA1.out.cell (i := 3) rfl
  have c4 := HA1.out.cell (i := 4) rfl
  have c2 := HA1.out.cell (i := 2) rfl
  clear HA HB HU a1 g1
  simp only [Act.put]
  have t3 := HX.out.thaw 3
  have cS := HX.out.cell (i := 3) rfl
  have HX2 := Hid.of (HX.out.set 3 (.slice (some ⟨bq, oq, none⟩) x.length c))
  simp only [List.set_cons_zero, List.set_cons_succ] at HX2
  have HU2 := Hid.of (HU1.out.by (grown_at w1 (b0 + 1) 3 (.slice (some ⟨bq, oq, none⟩) x.length c)) (fun g hg => by have := Option.some.inj hg; omega))
  go_wp2_with (with_reducible show wpList _ _ _ ({ dst := _, op := Op.load 103 _, type := _, pos := _, after := _, guard := _ } :: _) _ _; refine Shut.out ?_)
  show wpList _ _ _ _ _ _
  generalize w1.setCell ⟨b0 + 1, 3, none⟩ (.slice (some ⟨bq, oq, none⟩) x.length c) = w2 at *
  refine wpList_load_mid rfl 103 _ rfl (b0 + 1) 0 rfl ([.int .i64 (t : Int), .int .i64 1, .int .i64 (m : Int), .slice (some ⟨bq, oq, none⟩) x.length c]) _ HX2.out.range Try.underlying103 rfl (by kernel_rfl) ?_
  simp only [Act.put, List.setIfInBounds_toArray, List.set_cons_zero, List.set_cons_succ]
  go_wp2_with fail
  refine (put_walk w2 va vc D ⟨t, 1, m, some ⟨bq, oq, none⟩, c, x⟩ (CO.read (ow_up HD.out HU2.out)) (by omega)).mono ?_
  rintro e wy ⟨vy, rfl, o5, u5⟩
  have Hvy := Hid.of (ow_base o5 (Nat.zero_le _))
  have HUvy := Hid.of (HU2.out.trans u5)
  go_wp2
  go_ret
  refine ⟨_, [⟨t, 1, m, some ⟨bq, oq, none⟩, c, x⟩], rfl, ⟨Hvy.out, (by rw [HP.out]; exact ⟨now_for _ _ _ _ _, trivial⟩), ?_, HUvy.out⟩⟩
  intro c' hc'
  simp only [List.mem_cons, List.not_mem_nil, or_false] at hc'
  subst hc'
  exact .inl fun w0 h0 => HXS.out w0 _ _ _ _ h0
set_option maxRecDepth 100000 in
set_option maxHeartbeats 4000000 in
theorem becomes_4b (w : World) (v : Value) (D : List Co) (hD : CO w 0 v D) (hl : D.length ≤ 900) (g i : Nat) (a : Option Addr) (c : Nat) (d : List UInt8) (n t m : Nat) (hq : SnOk w ⟨g, i, a, c, d, 4, (n : Int)⟩) (_ht : t + n ≤ 4611686018427387904) (hnl : ¬ n < d.length) :
    Calls Try.prog 27 #[v, .agg (snc ⟨g, i, a, c, d, 4, (n : Int)⟩).toArray, .int .i64 (t : Int), .int .i64 (m : Int)] w fun e w' => ∃ v' cs, e = .returned v' ∧ Bec w w' v' D ⟨g, i, a, c, d, 4, (n : Int)⟩ t m cs := by
  have hnz : ¬ (n : Int) < (d.length : Int) := by omega
  have HP := Hid.of (show posts d (4, (n : Int)) = [(d, 0)] from by
    have e : d.take n = d := List.take_of_length_le (by omega)
    simp [posts, e])
  clear hnl
  have HD := Hid.of hD
  obtain ⟨va, vc, rfl, _⟩ := hD.shape
  have HQ := Hid.of hq
  have HA := Hid.of (show At ((w.alloc (.cells #[.int .i64 (g : Int), .int .i64 (i : Int), .slice a d.length c, .int .i64 4, .int .i64 (n : Int)] 65)).alloc (.cells #[.int .i64 0, .int .i64 0, .int .i64 0, .slice none 0 0] 103)) w.heap.size 65 [.int .i64 (g : Int), .int .i64 (i : Int), .slice a d.length c, .int .i64 4, .int .i64 (n : Int)] from (at_new w 65 [.int .i64 (g : Int), .int .i64 (i : Int), .slice a d.length c, .int .i64 4, .int .i64 (n : Int)]).up ((Up.refl _).alloc (.cells #[.int .i64 0, .int .i64 0, .int .i64 0, .slice none 0 0] 103)))
  have hsz : (w.alloc (.cells #[.int .i64 (g : Int), .int .i64 (i : Int), .slice a d.length c, .int .i64 4, .int .i64 (n : Int)] 65)).heap.size = w.heap.size + 1 := by show (w.heap.push _).size = _; rw [Array.size_push]
  have HB := Hid.of (show At ((w.alloc (.cells #[.int .i64 (g : Int), .int .i64 (i : Int), .slice a d.length c, .int .i64 4, .int .i64 (n : Int)] 65)).alloc (.cells #[.int .i64 0, .int .i64 0, .int .i64 0, .slice none 0 0] 103)) (w.heap.size + 1) 103 [.int .i64 0, .int .i64 0, .int .i64 0, .slice none 0 0] from by
    have := at_new (w.alloc (.cells #[.int .i64 (g : Int), .int .i64 (i : Int), .slice a d.length c, .int .i64 4, .int .i64 (n : Int)] 65)) 103 [.int .i64 0, .int .i64 0, .int .i64 0, .slice none 0 0]
    rw [hsz] at this
    exact this)
  have HU := Hid.of (((Up.refl w).alloc (.cells #[.int .i64 (g : Int), .int .i64 (i : Int), .slice a d.length c, .int .i64 4, .int .i64 (n : Int)] 65)).alloc (.cells #[.int .i64 0, .int .i64 0, .int .i64 0, .slice none 0 0] 103))
  have c2 := HA.out.cell (i := 2) rfl
  clear hD hq
  show Calls Try.prog 27 #[.slice va D.length vc, .agg #[.int .i64 (g : Int), .int .i64 (i : Int), .slice a d.length c, .int .i64 4, .int .i64 (n : Int)], .int .i64 (t : Int), .int .i64 (m : Int)] w _
  go_enter Try.func27, Try.ntmps27
  go_wp2_with (with_reducible show wpList _ _ _ ({ dst := _, op := Op.store 103 _ _, type := _, pos := _, after := _, guard := _ } :: _) _ _; refine Shut.out ?_)
  show wpList _ _ _ _ _ _
  clear hsz c2
  generalize (w.alloc (.cells #[.int .i64 (g : Int), .int .i64 (i : Int), .slice a d.length c, .int .i64 4, .int .i64 (n : Int)] 65)).alloc (.cells #[.int .i64 0, .int .i64 0, .int .i64 0, .slice none 0 0] 103) = W0 at *
  generalize hb0 : w.heap.size = b0 at *
  refine wpList_store_at rfl 103 _ _ rfl (b0 + 1) HB.out [.int .i64 (t : Int), .int .i64 1, .int .i64 (m : Int), .slice a d.length c] rfl rfl rfl (by kernel_rfl) (by simp [Value.oneCell']) ?_
  intro w1 a1 g1
  have HX := Hid.of a1
  have HA1 := Hid.of (HA.out.by g1 (by simp))
  have HU1 := Hid.of (HU.out.by g1 (fun g hg => by have := Option.some.inj hg; omega))
  have c3 := HA1.out.cell (i := 3) rfl
  have c4 := HA1.out.cell (i := 4) rfl
  have c2 := HA1.out.cell (i := 2) rfl
  clear HA HB HU a1 g1
  simp only [Act.put]
  go_wp2_with (with_reducible show wpList _ _ _ ({ dst := _, op := Op.load 103 _, type := _, pos := _, after := _, guard := _ } :: _) _ _; refine Shut.out ?_)
  show wpList _ _ _ _ _ _
  refine wpList_load_mid rfl 103 _ rfl (b0 + 1) (0) rfl ([.int .i64 (t : Int), .int .i64 1, .int .i64 (m : Int), .slice a d.length c]) _ (HX.out.range) Try.underlying103 rfl (by kernel_rfl) ?_
  simp only [Act.put, List.setIfInBounds_toArray, List.set_cons_zero, List.set_cons_succ]
  go_wp2_with fail
  refine (put_walk w1 va vc D ⟨t, 1, m, a, c, d⟩ (CO.read (ow_up HD.out HU1.out)) (by omega)).mono ?_
  rintro e wy ⟨vy, rfl, o5, u5⟩
  have Hvy := Hid.of (ow_base o5 (Nat.zero_le _))
  have HUvy := Hid.of (HU1.out.trans u5)
  go_wp2
  go_ret
  refine ⟨_, [⟨t, 1, m, a, c, d⟩], rfl, ⟨Hvy.out, (by rw [HP.out]; exact ⟨now_for _ _ _ _ _, trivial⟩), ?_, HUvy.out⟩⟩
  intro c' hc'
  simp only [List.mem_cons, List.not_mem_nil, or_false] at hc'
  subst hc'
  exact .inl fun w0 h0 => h0.sb
set_option maxRecDepth 100000 in
set_option maxHeartbeats 4000000 in
theorem becomes_5b (w : World) (v : Value) (D : List Co) (hD : CO w 0 v D) (hl : D.length ≤ 900) (g i : Nat) (a : Option Addr) (c : Nat) (d : List UInt8) (n t m : Nat) (hq : SnOk w ⟨g, i, a, c, d, 5, (n : Int)⟩) (_ht : t + n ≤ 4611686018427387904) (hnl : ¬ n < d.length) :
    Calls Try.prog 27 #[v, .agg (snc ⟨g, i, a, c, d, 5, (n : Int)⟩).toArray, .int .i64 (t : Int), .int .i64 (m : Int)] w fun e w' => ∃ v' cs, e = .returned v' ∧ Bec w w' v' D ⟨g, i, a, c, d, 5, (n : Int)⟩ t m cs := by
  have hnz : ¬ (n : Int) < (d.length : Int) := by omega
  have HP := Hid.of (show posts d (5, (n : Int)) = [(d, 0)] from by
    have e : spl d n = d := by unfold spl; rw [List.getElem?_eq_none (by omega)]
    simp [posts, e])
  clear hnl
  have HD := Hid.of hD
  obtain ⟨va, vc, rfl, _⟩ := hD.shape
  have HQ := Hid.of hq
  have HA := Hid.of (show At ((w.alloc (.cells #[.int .i64 (g : Int), .int .i64 (i : Int), .slice a d.length c, .int .i64 5, .int .i64 (n : Int)] 65)).alloc (.cells #[.int .i64 0, .int .i64 0, .int .i64 0, .slice none 0 0] 103)) w.heap.size 65 [.int .i64 (g : Int), .int .i64 (i : Int), .slice a d.length c, .int .i64 5, .int .i64 (n : Int)] from (at_new w 65 [.int .i64 (g : Int), .int .i64 (i : Int), .slice a d.length c, .int .i64 5, .int .i64 (n : Int)]).up ((Up.refl _).alloc (.cells #[.int .i64 0, .int .i64 0, .int .i64 0, .slice none 0 0] 103)))
  have hsz : (w.alloc (.cells #[.int .i64 (g : Int), .int .i64 (i : Int), .slice a d.length c, .int .i64 5, .int .i64 (n : Int)] 65)).heap.size = w.heap.size + 1 := by show (w.heap.push _).size = _; rw [Array.size_push]
  have HB := Hid.of (show At ((w.alloc (.cells #[.int .i64 (g : Int), .int .i64 (i : Int), .slice a d.length c, .int .i64 5, .int .i64 (n : Int)] 65)).alloc (.cells #[.int .i64 0, .int .i64 0, .int .i64 0, .slice none 0 0] 103)) (w.heap.size + 1) 103 [.int .i64 0, .int .i64 0, .int .i64 0, .slice none 0 0] from by
    have := at_new (w.alloc (.cells #[.int .i64 (g : Int), .int .i64 (i : Int), .slice a d.length c, .int .i64 5, .int .i64 (n : Int)] 65)) 103 [.int .i64 0, .int .i64 0, .int .i64 0, .slice none 0 0]
    rw [hsz] at this
    exact this)
  have HU := Hid.of (((Up.refl w).alloc (.cells #[.int .i64 (g : Int), .int .i64 (i : Int), .slice a d.length c, .int .i64 5, .int .i64 (n : Int)] 65)).alloc (.cells #[.int .i64 0, .int .i64 0, .int .i64 0, .slice none 0 0] 103))
  have c2 := HA.out.cell (i := 2) rfl
  clear hD hq
  show Calls Try.prog 27 #[.slice va D.length vc, .agg #[.int .i64 (g : Int), .int .i64 (i : Int), .slice a d.length c, .int .i64 5, .int .i64 (n : Int)], .int .i64 (t : Int), .int .i64 (m : Int)] w _
  go_enter Try.func27, Try.ntmps27
  go_wp2_with (with_reducible show wpList _ _ _ ({ dst := _, op := Op.store 103 _ _, type := _, pos := _, after := _, guard := _ } :: _) _ _; refine Shut.out ?_)
  show wpList _ _ _ _ _ _
  clear hsz c2
  generalize (w.alloc (.cells #[.int .i64 (g : Int), .int .i64 (i : Int), .slice a d.length c, .int .i64 5, .int .i64 (n : Int)] 65)).alloc (.cells #[.int .i64 0, .int .i64 0, .int .i64 0, .slice none 0 0] 103) = W0 at *
  generalize hb0 : w.heap.size = b0 at *
  refine wpList_store_at rfl 103 _ _ rfl (b0 + 1) HB.out [.int .i64 (t : Int), .int .i64 1, .int .i64 (m : Int), .slice a d.length c] rfl rfl rfl (by kernel_rfl) (by simp [Value.oneCell']) ?_
  intro w1 a1 g1
  have HX := Hid.of a1
  have HA1 := Hid.of (HA.out.by g1 (by simp))
  have HU1 := Hid.of (HU.out.by g1 (fun g hg => by have := Option.some.inj hg; omega))
  have c3 := HA1.out.cell (i := 3) rfl
  have c4 := HA1.out.cell (i := 4) rfl
  have c2 := HA1.out.cell (i := 2) rfl
  clear HA HB HU a1 g1
  simp only [Act.put]
  go_wp2_with (with_reducible show wpList _ _ _ ({ dst := _, op := Op.load 103 _, type := _, pos := _, after := _, guard := _ } :: _) _ _; refine Shut.out ?_)
  show wpList _ _ _ _ _ _
  refine wpList_load_mid rfl 103 _ rfl (b0 + 1) (0) rfl ([.int .i64 (t : Int), .int .i64 1, .int .i64 (m : Int), .slice a d.length c]) _ (HX.out.range) Try.underlying103 rfl (by kernel_rfl) ?_
  simp only [Act.put, List.setIfInBounds_toArray, List.set_cons_zero, List.set_cons_succ]
  go_wp2_with fail
  refine (put_walk w1 va vc D ⟨t, 1, m, a, c, d⟩ (CO.read (ow_up HD.out HU1.out)) (by omega)).mono ?_
  rintro e wy ⟨vy, rfl, o5, u5⟩
  have Hvy := Hid.of (ow_base o5 (Nat.zero_le _))
  have HUvy := Hid.of (HU1.out.trans u5)
  go_wp2
  go_ret
  refine ⟨_, [⟨t, 1, m, a, c, d⟩], rfl, ⟨Hvy.out, (by rw [HP.out]; exact ⟨now_for _ _ _ _ _, trivial⟩), ?_, HUvy.out⟩⟩
  intro c' hc'
  simp only [List.mem_cons, List.not_mem_nil, or_false] at hc'
  subst hc'
  exact .inl fun w0 h0 => h0.sb
set_option maxRecDepth 100000 in
set_option maxHeartbeats 4000000 in
theorem becomes_5a (w : World) (v : Value) (D : List Co) (hD : CO w 0 v D) (hl : D.length ≤ 900) (g i : Nat) (a : Option Addr) (c : Nat) (d : List UInt8) (n t m : Nat) (hq : SnOk w ⟨g, i, a, c, d, 5, (n : Int)⟩) (_ht : t + n ≤ 4611686018427387904) (hnl : n < d.length) :
    Calls Try.prog 27 #[v, .agg (snc ⟨g, i, a, c, d, 5, (n : Int)⟩).toArray, .int .i64 (t : Int), .int .i64 (m : Int)] w fun e w' => ∃ v' cs, e = .returned v' ∧ Bec w w' v' D ⟨g, i, a, c, d, 5, (n : Int)⟩ t m cs := by
  have hnz : (n : Int) < (d.length : Int) := by omega
  obtain ⟨y, hy⟩ : ∃ y, d[n] = y := ⟨_, rfl⟩
  obtain ⟨z, hz⟩ : ∃ z, y ^^^ 1 = z := ⟨_, rfl⟩
  have hsp : spl d n = d.set n z := by
    unfold spl
    rw [List.getElem?_eq_getElem hnl, hy, ← hz]
  have HXR := Hid.of (show bits BinOp.xor IntKind.u8 (y.toNat : Int) 1 = (z.toNat : Int) from by rw [xor1, hz])
  have HY := Hid.of (show ∀ (w : World) B g l c, Ow w B (.slice (some ⟨g, 0, none⟩) l c) d → w.cell? ⟨g, n, none⟩ = some (.int .u8 ((y.toNat : Nat) : Int)) ∧ w.frozen? ⟨g, n, none⟩ = false from fun w B g l c h => by
    have := ow_cells h hnl
    rwa [hy] at this)
  have HP := Hid.of (show posts d (5, (n : Int)) = [(spl d n, 0)] from by simp [posts])
  have HSP := Hid.of (And.intro hsp trivial)
  have hdl : d.length ≤ 4096 := hq.len
  clear hsp hy hnl hz
  have HD := Hid.of hD
  obtain ⟨va, vc, rfl, _⟩ := hD.shape
  have HQ := Hid.of hq
  have HA := Hid.of (show At ((w.alloc (.cells #[.int .i64 (g : Int), .int .i64 (i : Int), .slice a d.length c, .int .i64 5, .int .i64 (n : Int)] 65)).alloc (.cells #[.int .i64 0, .int .i64 0, .int .i64 0, .slice none 0 0] 103)) w.heap.size 65 [.int .i64 (g : Int), .int .i64 (i : Int), .slice a d.length c, .int .i64 5, .int .i64 (n : Int)] from (at_new w 65 [.int .i64 (g : Int), .int .i64 (i : Int), .slice a d.length c, .int .i64 5, .int .i64 (n : Int)]).up ((Up.refl _).alloc (.cells #[.int .i64 0, .int .i64 0, .int .i64 0, .slice none 0 0] 103)))
  have hsz : (w.alloc (.cells #[.int .i64 (g : Int), .int .i64 (i : Int), .slice a d.length c, .int .i64 5, .int .i64 (n : Int)] 65)).heap.size = w.heap.size + 1 := by show (w.heap.push _).size = _; rw [Array.size_push]
  have HB := Hid.of (show At ((w.alloc (.cells #[.int .i64 (g : Int), .int .i64 (i : Int), .slice a d.length c, .int .i64 5, .int .i64 (n : Int)] 65)).alloc (.cells #[.int .i64 0, .int .i64 0, .int .i64 0, .slice none 0 0] 103)) (w.heap.size + 1) 103 [.int .i64 0, .int .i64 0, .int .i64 0, .slice none 0 0] from by
    have := at_new (w.alloc (.cells #[.int .i64 (g : Int), .int .i64 (i : Int), .slice a d.length c, .int .i64 5, .int .i64 (n : Int)] 65)) 103 [.int .i64 0, .int .i64 0, .int .i64 0, .slice none 0 0]
    rw [hsz] at this
    exact this)
  have HU := Hid.of (((Up.refl w).alloc (.cells #[.int .i64 (g : Int), .int .i64 (i : Int), .slice a d.length c, .int .i64 5, .int .i64 (n : Int)] 65)).alloc (.cells #[.int .i64 0, .int .i64 0, .int .i64 0, .slice none 0 0] 103))
  have c2 := HA.out.cell (i := 2) rfl
  clear hD hq
  show Calls Try.prog 27 #[.slice va D.length vc, .agg #[.int .i64 (g : Int), .int .i64 (i : Int), .slice a d.length c, .int .i64 5, .int .i64 (n : Int)], .int .i64 (t : Int), .int .i64 (m : Int)] w _
  go_enter Try.func27, Try.ntmps27
  go_wp2_with (with_reducible show wpList _ _ _ ({ dst := _, op := Op.store 103 _ _, type := _, pos := _, after := _, guard := _ } :: _) _ _; refine Shut.out ?_)
  show wpList _ _ _ _ _ _
  clear hsz c2
  generalize (w.alloc (.cells #[.int .i64 (g : Int), .int .i64 (i : Int), .slice a d.length c, .int .i64 5, .int .i64 (n : Int)] 65)).alloc (.cells #[.int .i64 0, .int .i64 0, .int .i64 0, .slice none 0 0] 103) = W0 at *
  generalize hb0 : w.heap.size = b0 at *
  refine wpList_store_at rfl 103 _ _ rfl (b0 + 1) HB.out [.int .i64 (t : Int), .int .i64 1, .int .i64 (m : Int), .slice a d.length c] rfl rfl rfl (by kernel_rfl) (by simp [Value.oneCell']) ?_
  intro w1 a1 g1
  have HX := Hid.of a1
  have HA1 := Hid.of (HA.out.by g1 (by simp))
  have HU1 := Hid.of (HU.out.by g1 (fun g hg => by have := Option.some.inj hg; omega))
  have c3 := HA1.out.cell (i := 3) rfl
  have c4 := HA1.out.cell (i := 4) rfl
  have c2 := HA1.out.cell (i := 2) rfl
  clear HA HB HU a1 g1
  simp only [Act.put]
  go_wp2_with fail
  refine wp_region_held_drew (S := fun w2 => At w2 b0 65 [.int .i64 (g : Int), .int .i64 (i : Int), .slice a d.length c, .int .i64 5, .int .i64 (n : Int)] ∧ Up w w2) (by kernel_rfl) ⟨HA1.out.up (Up.refl w1).drew, HU1.out.drew⟩ (fun hS => ?_)
  refine wpAnyH_take (i := 0) (oi := { dst := some 73, op := Go.Op.fieldAddr 65 (Go.Operand.tmp 5) 2, type := 0, pos := "outright.go:124", after := #[], guard := none }) (v := .pointer (some ⟨b0, 2, none⟩)) rfl (by kernel_rfl) (by kernel_rfl) (by kernel_rfl) (fun _ _ _ h => h) (Or.inl ⟨by kernel_rfl, ?_⟩) hS ?_
  · intro w5 hSw
    clear hSw hS
    go_simp
  simp only [Act.put, List.setIfInBounds_toArray, List.set_cons_zero, List.set_cons_succ]
  refine wpAnyH_take (i := 1) (oi := { dst := some 74, op := Go.Op.load 47 (Go.Operand.tmp 73), type := 47, pos := "outright.go:124", after := #[{ on := 0, ground := Go.Ground.data }], guard := none }) (v := .slice a d.length c) rfl (by kernel_rfl) (by kernel_rfl) (by kernel_rfl) (fun _ _ _ h => h) (Or.inl ⟨by kernel_rfl, ?_⟩) hS ?_
  · intro w5 hSw
    have c2 := hSw.1.cell (i := 2) rfl
    clear hSw hS
    go_simp
  simp only [Act.put, List.setIfInBounds_toArray, List.set_cons_zero, List.set_cons_succ]
  refine wpAnyH_take (i := 3) (oi := { dst := some 76, op := Go.Op.fieldAddr 65 (Go.Operand.tmp 5) 2, type := 0, pos := "outright.go:124", after := #[], guard := none }) (v := .pointer (some ⟨b0, 2, none⟩)) rfl (by kernel_rfl) (by kernel_rfl) (by kernel_rfl) (fun _ _ _ h => h) (Or.inl ⟨by kernel_rfl, ?_⟩) hS ?_
  · intro w5 hSw
    clear hSw hS
    go_simp
  simp only [Act.put, List.setIfInBounds_toArray, List.set_cons_zero, List.set_cons_succ]
  refine wpAnyH_take (i := 4) (oi := { dst := some 77, op := Go.Op.load 47 (Go.Operand.tmp 76), type := 47, pos := "outright.go:124", after := #[{ on := 3, ground := Go.Ground.data }], guard := none }) (v := .slice a d.length c) rfl (by kernel_rfl) (by kernel_rfl) (by kernel_rfl) (fun _ _ _ h => h) (Or.inl ⟨by kernel_rfl, ?_⟩) hS ?_
  · intro w5 hSw
    have c2 := hSw.1.cell (i := 2) rfl
    clear hSw hS
    go_simp
  simp only [Act.put, List.setIfInBounds_toArray, List.set_cons_zero, List.set_cons_succ]
  refine wpAnyH_take (i := 5) (oi := { dst := some 78, op := Go.Op.call { callee := Go.Callee.builtin Go.Builtin.len, args := #[Go.Operand.tmp 77], argTypes := #[47] }, type := 3, pos := "outright.go:124", after := #[{ on := 4, ground := Go.Ground.data }], guard := none }) (v := .int .i64 (d.length : Int)) rfl (by kernel_rfl) (by kernel_rfl) (by kernel_rfl) (fun _ _ _ h => h) (Or.inl ⟨by kernel_rfl, ?_⟩) hS ?_
  · intro w5 hSw
    clear hSw hS
    go_simp
  simp only [Act.put, List.setIfInBounds_toArray, List.set_cons_zero, List.set_cons_succ]
  refine wpAnyH_ready (rs := [2]) (by kernel_rfl) (by simp) ?_
  refine AllReadyH.cons (o := { dst := some 75, op := Go.Op.call { callee := Go.Callee.value (Go.Operand.func 22), args := #[Go.Operand.tmp 74], argTypes := #[47] }, type := 47, pos := "outright.go:124", after := #[{ on := 1, ground := Go.Ground.data }], guard := none }) rfl (fun K hK => ?_) AllReadyH.nil
  rw [if_pos (by kernel_rfl)]
  go_simp
  refine (lent_walk w1.drew (.slice a d.length c) d (HQ.out.sb.up HU1.out.drew) (by omega)).mono ?_
  rintro e w3 ⟨rfl, o3, u3⟩
  rw [show w1.drew.heap.size = w1.heap.size from rfl] at o3 ⊢
  dsimp only
  have HU3 := Hid.of ((Up.refl w1).drew.trans u3)
  have HO3 := Hid.of (own_cut rfl o3)
  clear o3 u3 hS
  refine hK.out _ _ ⟨HA1.out.up HU3.out, HU1.out.trans HU3.out⟩ (fun hS => ?_)
  clear hK K
  refine wpAnyH_take (i := 6) (oi := { dst := some 79, op := Go.Op.slice 47 (Go.Operand.tmp 75) none (some (Go.Operand.tmp 78)) none, type := 47, pos := "outright.go:124", after := #[{ on := 2, ground := Go.Ground.data }, { on := 5, ground := Go.Ground.data }], guard := none }) (v := .slice (some ⟨w1.heap.size, 0, none⟩) d.length (d.length + 200)) rfl (by kernel_rfl) (by kernel_rfl) (by kernel_rfl) (fun _ _ _ h => h) (Or.inl ⟨by kernel_rfl, ?_⟩) hS ?_
  · intro w5 hSw
    have hle : (d.length : Int) ≤ ((d.length + 200 : Nat) : Int) := by omega
    have hle2 : (d.length : Int) ≤ (d.length : Int) + 200 := by omega
    clear hSw hS
    go_simp
  simp only [Act.put, List.setIfInBounds_toArray, List.set_cons_zero, List.set_cons_succ]
  refine wpAnyH_take (i := 7) (oi := { dst := some 80, op := Go.Op.fieldAddr 103 (Go.Operand.tmp 9) 3, type := 0, pos := "outright.go:124", after := #[{ on := 0, ground := Go.Ground.phase }, { on := 1, ground := Go.Ground.phase }, { on := 2, ground := Go.Ground.phase }, { on := 3, ground := Go.Ground.phase }, { on := 4, ground := Go.Ground.phase }, { on := 5, ground := Go.Ground.phase }, { on := 6, ground := Go.Ground.phase }], guard := none }) (v := .pointer (some ⟨b0 + 1, 3, none⟩)) rfl (by kernel_rfl) (by kernel_rfl) (by kernel_rfl) (fun _ _ _ h => h) (Or.inl ⟨by kernel_rfl, ?_⟩) hS ?_
  · intro w5 hSw
    clear hSw hS
    go_simp
  simp only [Act.put, List.setIfInBounds_toArray, List.set_cons_zero, List.set_cons_succ]
  refine wpAnyH_ready (rs := [8]) (by kernel_rfl) (by simp) ?_
  refine AllReadyH.cons (o := { dst := none, op := Go.Op.store 47 (Go.Operand.tmp 80) (Go.Operand.tmp 79), type := 0, pos := "outright.go:124", after := #[{ on := 7, ground := Go.Ground.data }, { on := 6, ground := Go.Ground.data }, { on := 2, ground := Go.Ground.chain }, { on := 0, ground := Go.Ground.phase }, { on := 1, ground := Go.Ground.phase }, { on := 2, ground := Go.Ground.phase }, { on := 3, ground := Go.Ground.phase }, { on := 4, ground := Go.Ground.phase }, { on := 5, ground := Go.Ground.phase }, { on := 6, ground := Go.Ground.phase }], guard := none }) rfl (fun K hK => ?_) AllReadyH.nil
  rw [if_pos (by kernel_rfl)]
  have t3 := (HX.out.up HU3.out).thaw 3
  have cS := (HX.out.up HU3.out).cell (i := 3) rfl
  have HX4 := Hid.of ((HX.out.up HU3.out).set 3 (.slice (some ⟨w1.heap.size, 0, none⟩) d.length (d.length + 200)))
  simp only [List.set_cons_zero, List.set_cons_succ] at HX4
  have gw := grown_at w3 (b0 + 1) 3 (.slice (some ⟨w1.heap.size, 0, none⟩) d.length (d.length + 200))
  have hbl : b0 + 1 < w1.heap.size := lt_of_at HX.out
  have HA4 := Hid.of ((HA1.out.up HU3.out).by gw (by simp))
  have HU4 := Hid.of ((HU1.out.trans HU3.out).by gw (fun g hg => by have := Option.some.inj hg; omega))
  have HO4 := Hid.of (World.ownsRow.kept HO3.out gw (.inr (fun e => by have := Option.some.inj e; dsimp only at this; omega)))
  go_simp
  generalize w3.setCell ⟨b0 + 1, 3, none⟩ (.slice (some ⟨w1.heap.size, 0, none⟩) d.length (d.length + 200)) = w4 at *
  refine hK.out _ _ ⟨HA4.out, HU4.out⟩ (fun hS2 => ?_)
  clear hK K hS hS2 t3 cS gw HO3 HU3 HX HA1 HU1
  generalize hK : d.length + 200 = K at *
  generalize hbl2 : w1.heap.size = bl at *
  clear hK hbl2
  refine wpAnyH_done (by kernel_rfl) ?_ _
  go_wp2_with fail
  refine wp_region_held_drew (S := fun w2 => At w2 b0 65 [.int .i64 (g : Int), .int .i64 (i : Int), .slice a d.length c, .int .i64 5, .int .i64 (n : Int)] ∧ At w2 (b0 + 1) 103 [.int .i64 (t : Int), .int .i64 1, .int .i64 (m : Int), .slice (some ⟨bl, 0, none⟩) d.length K] ∧ Up w w2) (by kernel_rfl) ⟨HA4.out.up (Up.refl w4).drew, HX4.out.up (Up.refl w4).drew, HU4.out.drew⟩ (fun hS => ?_)
  refine wpAnyH_take (i := 0) (oi := { dst := some 81, op := Go.Op.fieldAddr 103 (Go.Operand.tmp 9) 3, type := 0, pos := "outright.go:125", after := #[], guard := none }) (v := .pointer (some ⟨b0 + 1, 3, none⟩)) rfl (by kernel_rfl) (by kernel_rfl) (by kernel_rfl) (fun _ _ _ h => h) (Or.inl ⟨by kernel_rfl, ?_⟩) hS ?_
  · intro w5 hSw
    clear hSw hS
    go_simp
  simp only [Act.put, List.setIfInBounds_toArray, List.set_cons_zero, List.set_cons_succ]
  refine wpAnyH_take (i := 1) (oi := { dst := some 82, op := Go.Op.load 47 (Go.Operand.tmp 81), type := 47, pos := "outright.go:125", after := #[{ on := 0, ground := Go.Ground.data }], guard := none }) (v := .slice (some ⟨bl, 0, none⟩) d.length K) rfl (by kernel_rfl) (by kernel_rfl) (by kernel_rfl) (fun _ _ _ h => h) (Or.inl ⟨by kernel_rfl, ?_⟩) hS ?_
  · intro w5 hSw
    have c3 := hSw.2.1.cell (i := 3) rfl
    clear hSw hS
    go_simp
  simp only [Act.put, List.setIfInBounds_toArray, List.set_cons_zero, List.set_cons_succ]
  refine wpAnyH_take (i := 2) (oi := { dst := some 83, op := Go.Op.fieldAddr 65 (Go.Operand.tmp 5) 3, type := 0, pos := "outright.go:125", after := #[], guard := none }) (v := .pointer (some ⟨b0, 3, none⟩)) rfl (by kernel_rfl) (by kernel_rfl) (by kernel_rfl) (fun _ _ _ h => h) (Or.inl ⟨by kernel_rfl, ?_⟩) hS ?_
  · intro w5 hSw
    clear hSw hS
    go_simp
  simp only [Act.put, List.setIfInBounds_toArray, List.set_cons_zero, List.set_cons_succ]
  refine wpAnyH_take (i := 3) (oi := { dst := some 84, op := Go.Op.fieldAddr 63 (Go.Operand.tmp 83) 1, type := 0, pos := "outright.go:125", after := #[{ on := 2, ground := Go.Ground.data }], guard := none }) (v := .pointer (some ⟨b0, 4, none⟩)) rfl (by kernel_rfl) (by kernel_rfl) (by kernel_rfl) (fun _ _ _ h => h) (Or.inl ⟨by kernel_rfl, ?_⟩) hS ?_
  · intro w5 hSw
    clear hSw hS
    go_simp
  simp only [Act.put, List.setIfInBounds_toArray, List.set_cons_zero, List.set_cons_succ]
  refine wpAnyH_take (i := 4) (oi := { dst := some 85, op := Go.Op.load 3 (Go.Operand.tmp 84), type := 3, pos := "outright.go:125", after := #[{ on := 3, ground := Go.Ground.data }], guard := none }) (v := .int .i64 (n : Int)) rfl (by kernel_rfl) (by kernel_rfl) (by kernel_rfl) (fun _ _ _ h => h) (Or.inl ⟨by kernel_rfl, ?_⟩) hS ?_
  · intro w5 hSw
    have c4 := hSw.1.cell (i := 4) rfl
    clear hSw hS
    go_simp
  simp only [Act.put, List.setIfInBounds_toArray, List.set_cons_zero, List.set_cons_succ]
  refine wpAnyH_take (i := 5) (oi := { dst := some 86, op := Go.Op.fieldAddr 103 (Go.Operand.tmp 9) 3, type := 0, pos := "outright.go:125", after := #[], guard := none }) (v := .pointer (some ⟨b0 + 1, 3, none⟩)) rfl (by kernel_rfl) (by kernel_rfl) (by kernel_rfl) (fun _ _ _ h => h) (Or.inl ⟨by kernel_rfl, ?_⟩) hS ?_
  · intro w5 hSw
    clear hSw hS
    go_simp
  simp only [Act.put, List.setIfInBounds_toArray, List.set_cons_zero, List.set_cons_succ]
  refine wpAnyH_take (i := 6) (oi := { dst := some 87, op := Go.Op.load 47 (Go.Operand.tmp 86), type := 47, pos := "outright.go:125", after := #[{ on := 5, ground := Go.Ground.data }], guard := none }) (v := .slice (some ⟨bl, 0, none⟩) d.length K) rfl (by kernel_rfl) (by kernel_rfl) (by kernel_rfl) (fun _ _ _ h => h) (Or.inl ⟨by kernel_rfl, ?_⟩) hS ?_
  · intro w5 hSw
    have c3 := hSw.2.1.cell (i := 3) rfl
    clear hSw hS
    go_simp
  simp only [Act.put, List.setIfInBounds_toArray, List.set_cons_zero, List.set_cons_succ]
  refine wpAnyH_take (i := 7) (oi := { dst := some 88, op := Go.Op.fieldAddr 65 (Go.Operand.tmp 5) 3, type := 0, pos := "outright.go:125", after := #[], guard := none }) (v := .pointer (some ⟨b0, 3, none⟩)) rfl (by kernel_rfl) (by kernel_rfl) (by kernel_rfl) (fun _ _ _ h => h) (Or.inl ⟨by kernel_rfl, ?_⟩) hS ?_
  · intro w5 hSw
    clear hSw hS
    go_simp
  simp only [Act.put, List.setIfInBounds_toArray, List.set_cons_zero, List.set_cons_succ]
  refine wpAnyH_take (i := 8) (oi := { dst := some 89, op := Go.Op.fieldAddr 63 (Go.Operand.tmp 88) 1, type := 0, pos := "outright.go:125", after := #[{ on := 7, ground := Go.Ground.data }], guard := none }) (v := .pointer (some ⟨b0, 4, none⟩)) rfl (by kernel_rfl) (by kernel_rfl) (by kernel_rfl) (fun _ _ _ h => h) (Or.inl ⟨by kernel_rfl, ?_⟩) hS ?_
  · intro w5 hSw
    clear hSw hS
    go_simp
  simp only [Act.put, List.setIfInBounds_toArray, List.set_cons_zero, List.set_cons_succ]
  refine wpAnyH_take (i := 9) (oi := { dst := some 90, op := Go.Op.load 3 (Go.Operand.tmp 89), type := 3, pos := "outright.go:125", after := #[{ on := 8, ground := Go.Ground.data }], guard := none }) (v := .int .i64 (n : Int)) rfl (by kernel_rfl) (by kernel_rfl) (by kernel_rfl) (fun _ _ _ h => h) (Or.inl ⟨by kernel_rfl, ?_⟩) hS ?_
  · intro w5 hSw
    have c4 := hSw.1.cell (i := 4) rfl
    clear hSw hS
    go_simp
  simp only [Act.put, List.setIfInBounds_toArray, List.set_cons_zero, List.set_cons_succ]
  refine wpAnyH_take (i := 10) (oi := { dst := some 91, op := Go.Op.indexAddr 47 (Go.Operand.tmp 87) (Go.Operand.tmp 90), type := 0, pos := "outright.go:125", after := #[{ on := 6, ground := Go.Ground.data }, { on := 9, ground := Go.Ground.data }], guard := none }) (v := .pointer (some ⟨bl, n, none⟩)) rfl (by kernel_rfl) (by kernel_rfl) (by kernel_rfl) (fun _ _ _ h => h) (Or.inl ⟨by kernel_rfl, ?_⟩) hS ?_
  · intro w5 hSw
    clear hSw hS
    go_simp
  simp only [Act.put, List.setIfInBounds_toArray, List.set_cons_zero, List.set_cons_succ]
  refine wpAnyH_ready (rs := [11]) (by kernel_rfl) (by simp) ?_
  refine AllReadyH.cons (o := { dst := some 92, op := Go.Op.load 5 (Go.Operand.tmp 91), type := 5, pos := "outright.go:125", after := #[{ on := 10, ground := Go.Ground.data }], guard := none }) rfl (fun K hK => ?_) AllReadyH.nil
  rw [if_pos (by kernel_rfl)]
  obtain ⟨k1, _⟩ := HY.out _ _ _ _ _ (ow_up HO4.out (Up.refl w4).drew)
  go_simp
  refine hK.out _ _ hS (fun hS2 => ?_)
  clear hK K hS k1
  have hS := hS2
  clear hS2
  refine wpAnyH_take (i := 12) (oi := { dst := some 93, op := Go.Op.binOp Go.BinOp.xor 5 (Go.Operand.tmp 92) (Go.Operand.const (Go.Value.int Go.IntKind.u8 1)) 5, type := 5, pos := "outright.go:125", after := #[{ on := 11, ground := Go.Ground.data }], guard := none }) (v := .int .u8 ((z.toNat : Nat) : Int)) rfl (by kernel_rfl) (by kernel_rfl) (by kernel_rfl) (fun _ _ _ h => h) (Or.inl ⟨by kernel_rfl, ?_⟩) hS ?_
  · intro w5 hSw
    have c5 := HXR.out
    clear hSw hS
    go_simp
  simp only [Act.put, List.setIfInBounds_toArray, List.set_cons_zero, List.set_cons_succ]
  refine wpAnyH_take (i := 13) (oi := { dst := some 94, op := Go.Op.indexAddr 47 (Go.Operand.tmp 82) (Go.Operand.tmp 85), type := 0, pos := "outright.go:125", after := #[{ on := 1, ground := Go.Ground.data }, { on := 4, ground := Go.Ground.data }, { on := 0, ground := Go.Ground.phase }, { on := 1, ground := Go.Ground.phase }, { on := 2, ground := Go.Ground.phase }, { on := 3, ground := Go.Ground.phase }, { on := 4, ground := Go.Ground.phase }, { on := 5, ground := Go.Ground.phase }, { on := 6, ground := Go.Ground.phase }, { on := 7, ground := Go.Ground.phase }, { on := 8, ground := Go.Ground.phase }, { on := 9, ground := Go.Ground.phase }, { on := 10, ground := Go.Ground.phase }, { on := 11, ground := Go.Ground.phase }, { on := 12, ground := Go.Ground.phase }], guard := none }) (v := .pointer (some ⟨bl, n, none⟩)) rfl (by kernel_rfl) (by kernel_rfl) (by kernel_rfl) (fun _ _ _ h => h) (Or.inl ⟨by kernel_rfl, ?_⟩) hS ?_
  · intro w5 hSw
    clear hSw hS
    go_simp
  simp only [Act.put, List.setIfInBounds_toArray, List.set_cons_zero, List.set_cons_succ]
  refine wpAnyH_ready (rs := [14]) (by kernel_rfl) (by simp) ?_
  refine AllReadyH.cons (o := { dst := none, op := Go.Op.store 5 (Go.Operand.tmp 94) (Go.Operand.tmp 93), type := 0, pos := "outright.go:125", after := #[{ on := 13, ground := Go.Ground.data }, { on := 12, ground := Go.Ground.data }, { on := 0, ground := Go.Ground.phase }, { on := 1, ground := Go.Ground.phase }, { on := 2, ground := Go.Ground.phase }, { on := 3, ground := Go.Ground.phase }, { on := 4, ground := Go.Ground.phase }, { on := 5, ground := Go.Ground.phase }, { on := 6, ground := Go.Ground.phase }, { on := 7, ground := Go.Ground.phase }, { on := 8, ground := Go.Ground.phase }, { on := 9, ground := Go.Ground.phase }, { on := 10, ground := Go.Ground.phase }, { on := 11, ground := Go.Ground.phase }, { on := 12, ground := Go.Ground.phase }], guard := none }) rfl (fun K hK => ?_) AllReadyH.nil
  rw [if_pos (by kernel_rfl)]
  obtain ⟨k1, k2⟩ := HY.out _ _ _ _ _ (ow_up HO4.out (Up.refl w4).drew)
  have HO5 := Hid.of (Ow.put (ow_up HO4.out (Up.refl w4).drew) n z)
  rw [← HSP.out.1] at HO5
  have gw := grown_at w4.drew bl n (.int .u8 ((z.toNat : Nat) : Int))
  have HA5 := Hid.of ((HA4.out.up (Up.refl w4).drew).by gw (fun e => by have := Option.some.inj e; omega))
  have HX5 := Hid.of ((HX4.out.up (Up.refl w4).drew).by gw (fun e => by have := Option.some.inj e; omega))
  have HU5 := Hid.of (HU4.out.drew.by gw (fun g hg => by have := Option.some.inj hg; omega))
  go_simp
  have hcm : w4.drew.setCell ⟨bl, n, none⟩ (.int .u8 ((z.toNat : Nat) : Int)) = (w4.setCell ⟨bl, n, none⟩ (.int .u8 ((z.toNat : Nat) : Int))).drew := rfl
  rw [hcm] at HO5 HA5 HX5 HU5
  clear hcm gw
  generalize (w4.setCell ⟨bl, n, none⟩ (.int .u8 ((z.toNat : Nat) : Int))).drew = w5 at *
  refine hK.out _ _ ⟨HA5.out, HX5.out, HU5.out⟩ (fun hS2 => ?_)
  clear hK K hS hS2 k1 k2 HO4 HA4 HX4 HU4
  refine wpAnyH_done (by kernel_rfl) ?_ _
  have HL := Hid.of (And.intro (spl_len d n) trivial)
  rw [← spl_len d n] at HX5
  go_wp2_with (with_reducible show wpList _ _ _ ({ dst := _, op := Op.load 103 _, type := _, pos := _, after := _, guard := _ } :: _) _ _; refine Shut.out ?_)
  show wpList _ _ _ _ _ _
  refine wpList_load_mid rfl 103 _ rfl (b0 + 1) (0) rfl ([.int .i64 (t : Int), .int .i64 1, .int .i64 (m : Int), .slice (some ⟨bl, 0, none⟩) (spl d n).length K]) _ (HX5.out.range) Try.underlying103 rfl (by kernel_rfl) ?_
  simp only [Act.put, List.setIfInBounds_toArray, List.set_cons_zero, List.set_cons_succ]
  go_wp2_with fail
  refine (put_walk w5 va vc D ⟨t, 1, m, some ⟨bl, 0, none⟩, K, spl d n⟩ (CO.read (ow_up HD.out HU5.out)) (by omega)).mono ?_
  rintro e wy ⟨vy, rfl, o5, u5⟩
  have Hvy := Hid.of (ow_base o5 (Nat.zero_le _))
  have HRD := Hid.of (ow_base (ow_up HO5.out u5) (Nat.zero_le _))
  have HUvy := Hid.of (HU5.out.trans u5)
  go_wp2
  go_ret
  refine ⟨_, [⟨t, 1, m, some ⟨bl, 0, none⟩, K, spl d n⟩], rfl, ⟨Hvy.out, (by rw [HP.out]; exact ⟨now_for _ _ _ _ _, trivial⟩), ?_, HUvy.out⟩⟩
  intro c' hc'
  simp only [List.mem_cons, List.not_mem_nil, or_false] at hc'
  subst hc'
  refine .inr ?_
  have := HRD.out
  rw [← HL.out.1] at this
  exact this
end Go.Proofs.Ytgfehlcindapmaa
