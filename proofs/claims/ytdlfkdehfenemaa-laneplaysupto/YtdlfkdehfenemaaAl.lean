import Derived.Test.YtdlfkdehfenemaaAk
namespace Go.Proofs.Ytdlfkdehfenemaa
open Go.RowKit Go.Conc TextNum
def sendA (A : AN) (i : Nat) (d : List UInt8) (f : Int × Int) : AN :=
  if f.1 = 0 then postA A i d 0
  else if f.1 = 1 then A
  else if f.1 = 2 then postA (postA A i d 0) i d f.2.toNat
  else if f.1 = 3 then postA A i d f.2.toNat
  else if f.1 = 4 then postA A i (d.take f.2.toNat) 0
  else if f.1 = 5 then postA A i (spl d f.2.toNat) 0
  else A
theorem Stp.base {N k : Nat} {w w0 w' : World} {S S' : NS} {A : AN} (h : Stp N k w0 w' S S' A) (u : Up w w0) : Stp N k w w' S S' A :=
  ⟨h.ok, h.so, h.ab, (fr_of_up (own S) u).trans h.fr (fun _ h => .inl h), fun x hx => (h.no x hx).elim .inl (fun h1 => .inr (Nat.le_trans u.size h1)), h.nr, h.nb, h.mn, h.ap⟩
theorem Stp.more {N k k' : Nat} {w w' : World} {S S' : NS} {A : AN} (h : Stp N k w w' S S' A) (hk : k ≤ k') : Stp N k' w w' S S' A :=
  ⟨h.ok, h.so, h.ab, h.fr, h.no, h.nr, h.nb, Nat.le_trans h.mn (by omega), h.ap⟩
theorem shs_get {a b : List LC} (h : a.map (·.sh) = b.map (·.sh)) {i : Nat} {l : LC} (hl : b[i]? = some l) : ∃ l', a[i]? = some l' ∧ l'.sh = l.sh := by
  have e := congrArg (fun x => x[i]?) h
  simp only [List.getElem?_map, hl] at e
  cases hx : a[i]? with
  | none => rw [hx] at e; cases e
  | some l' => rw [hx] at e; exact ⟨l', rfl, by simpa using e⟩
theorem Fr.sb' {T : Nat → Prop} {w w' : World} {v : Value} {ds : List UInt8} (h : Fr T w w') (k : Sb w v ds) (hT : ∀ g, v.ownBlock = some g → ¬ T g) : Sb w' v ds := by
  obtain ⟨a, c, rfl, h1, h2, h3, h4⟩ := k
  refine ⟨a, c, rfl, h1, h2, h3, fun ad e => ⟨(h4 ad e).1, fun j u hj => ?_⟩⟩
  subst e
  have hc := (h4 _ rfl).2 j u hj
  obtain ⟨b, o, sp⟩ := ad
  obtain rfl : sp = none := (h4 _ rfl).1 (fun e => by rw [e] at hj; cases hj)
  rw [Addr.add_lit] at hc ⊢
  have hb := h.block b (World.block_lt_of_cell? w _ hc) (hT b rfl)
  rw [World.cell?_of_block (a := ⟨b, o + j, none⟩) hb]
  exact hc
theorem Sb.take' {w : World} {a : Option Addr} {ds : List UInt8} {c : Nat} (h : Sb w (.slice a ds.length c) ds) (n : Nat) (hn : n ≤ ds.length) : Sb w (.slice a n c) (ds.take n) := by
  obtain ⟨a2, c2, e, h1, h2, h3, h4⟩ := h
  injection e with e1 _ e3
  subst e1 e3
  have hl : (ds.take n).length = n := by rw [List.length_take]; omega
  refine ⟨a, c, by rw [hl], by rw [hl]; omega, h2, fun e => ?_, fun ad e => ⟨fun hne => (h4 ad e).1 (fun e2 => hne (by rw [e2]; simp)), fun j u hj => (h4 ad e).2 j u ?_⟩⟩
  · have := h3 e
    rw [this.1]
    exact ⟨by simp, this.2⟩
  · have hj2 := (List.getElem?_eq_some_iff.1 hj).1
    rw [cb_length, hl] at hj2
    rw [← hj]
    unfold cb
    rw [List.map_take, List.getElem?_take_of_lt hj2]
set_option maxRecDepth 100000 in
theorem send_0 (w : World) (S : NS) (i n : Nat) (l : LC) (v : Value) (d : List UInt8) (h : NOk w S) (k : SOk S) (hl : S.ls[i]? = some l) (ho : l.sh = false) (hd : Sb w v d) (hdl : d.length ≤ 1048576) :
    Calls Try.prog 35 #[.pointer (some ⟨S.nb, 0, none⟩), .int .i64 (i : Int), v, .agg #[.int .i64 0, .int .i64 (n : Int)]] w fun e w' => e = .returned (.tuple #[]) ∧ ∃ S', Stp w.heap.size 1 w w' S S' (sendA (abs S) i d (0, (n : Int))) ∧ S'.ls.map (·.sh) = S.ls.map (·.sh) := by
  have HU := Hid.of ((Up.refl w).alloc (.cells #[.int .i64 0, .int .i64 (n : Int)] 58))
  have HB := Hid.of (at_new w 58 [.int .i64 0, .int .i64 (n : Int)])
  have HN := Hid.of h
  have HK := Hid.of k
  have HD := Hid.of hd
  have HL := Hid.of hl
  have HO := Hid.of ho
  have hlt : ∀ x, own S x → x < w.heap.size := fun x hx => h.lt hx
  have HLT := Hid.of hlt
  clear h k hd hl ho hlt
  go_enter Try.func35, Try.ntmps35
  go_wp2_with fail
  generalize w.alloc (.cells #[.int .i64 0, .int .i64 (n : Int)] 58) = W0 at *
  refine (Clone_walk v d W0 (HD.out.up HU.out) (by omega)).mono ?_
  rintro e w1 ⟨v1, rfl, o1, u1⟩
  have HU1 := Hid.of (HU.out.trans u1)
  have hP := post0 (N := w.heap.size) w1 S i l ⟨v1, d⟩ (HN.out.up HU1.out) HK.out HL.out HO.out (ow_base o1 (Nat.zero_le _)) (fun g hg => Nat.le_trans HU.out.size (World.ownsRow.lt o1 g hg).1) (fun g hg => cm_new HN.out (Nat.le_trans HU.out.size (World.ownsRow.lt o1 g hg).1))
  dsimp only at hP ⊢
  go_wp2_with fail
  refine hP.mono ?_
  rintro e w2 ⟨rfl, S', h2, h3⟩
  dsimp only
  go_wp2
  go_end0
  exact ⟨rfl, S', (h2.base HU1.out).more (by omega), h3⟩
set_option maxRecDepth 100000 in
theorem send_1 (w : World) (S : NS) (i n : Nat) (l : LC) (v : Value) (d : List UInt8) (h : NOk w S) (k : SOk S) (hl : S.ls[i]? = some l) (ho : l.sh = false) (hd : Sb w v d) :
    Calls Try.prog 35 #[.pointer (some ⟨S.nb, 0, none⟩), .int .i64 (i : Int), v, .agg #[.int .i64 1, .int .i64 (n : Int)]] w fun e w' => e = .returned (.tuple #[]) ∧ ∃ S', Stp w.heap.size 1 w w' S S' (sendA (abs S) i d (1, (n : Int))) ∧ S'.ls.map (·.sh) = S.ls.map (·.sh) := by
  have HU := Hid.of ((Up.refl w).alloc (.cells #[.int .i64 1, .int .i64 (n : Int)] 58))
  have HB := Hid.of (at_new w 58 [.int .i64 1, .int .i64 (n : Int)])
  have HN := Hid.of h
  have HK := Hid.of k
  have HD := Hid.of hd
  have HL := Hid.of hl
  have HO := Hid.of ho
  have hlt : ∀ x, own S x → x < w.heap.size := fun x hx => h.lt hx
  have HLT := Hid.of hlt
  clear h k hd hl ho hlt
  go_enter Try.func35, Try.ntmps35
  go_wp2
  go_end0
  exact ⟨rfl, S, (Stp.up HN.out HK.out HU.out).more (by omega), rfl⟩
set_option maxRecDepth 100000 in
theorem send_3 (w : World) (S : NS) (i n : Nat) (l : LC) (v : Value) (d : List UInt8) (h : NOk w S) (k : SOk S) (hl : S.ls[i]? = some l) (ho : l.sh = false) (hd : Sb w v d) (hdl : d.length ≤ 1048576) (hn : n ≤ 1000) (hnow : S.now ≤ 2305843009213693952) (hmn : S.mn ≤ 549755813888) :
    Calls Try.prog 35 #[.pointer (some ⟨S.nb, 0, none⟩), .int .i64 (i : Int), v, .agg #[.int .i64 3, .int .i64 (n : Int)]] w fun e w' => e = .returned (.tuple #[]) ∧ ∃ S', Stp w.heap.size 1 w w' S S' (sendA (abs S) i d (3, (n : Int))) ∧ S'.ls.map (·.sh) = S.ls.map (·.sh) := by
  have HU := Hid.of ((Up.refl w).alloc (.cells #[.int .i64 3, .int .i64 (n : Int)] 58))
  have HB := Hid.of (at_new w 58 [.int .i64 3, .int .i64 (n : Int)])
  have HN := Hid.of h
  have HK := Hid.of k
  have HD := Hid.of hd
  have HL := Hid.of hl
  have HO := Hid.of ho
  have hlt : ∀ x, own S x → x < w.heap.size := fun x hx => h.lt hx
  have HLT := Hid.of hlt
  clear h k hd hl ho hlt
  go_enter Try.func35, Try.ntmps35
  go_wp2
  generalize w.alloc (.cells #[.int .i64 3, .int .i64 (n : Int)] 58) = W0 at *
  have HNx := Hid.of (HN.out.up HU.out)
  have HDx := Hid.of (HD.out.up HU.out)
  have HKx := HK
  have HLx := HL
  have HOx := HO
  have HBx := HB
  have HSz := Hid.of HU.out.size
  have HNb := Hid.of (rfl : S.nb = S.nb)
  have hbo : ¬ own S w.heap.size := fun e => Nat.lt_irrefl _ (HLT.out _ e)
  refine wp_region_held_drew (S := fun wz => Fr (own S) W0 wz) (by kernel_rfl) ((Fr.refl (own S) W0).up (Up.refl W0).drew) (fun hS => ?_)
  refine wpAnyH_take (i := 0) (oi := { dst := some 35, op := Go.Op.move (Go.Operand.tmp 0), type := 22, pos := "fate.go:57", after := #[], guard := none }) (v := .pointer (some ⟨S.nb, 0, none⟩)) rfl (by kernel_rfl) (by kernel_rfl) (by kernel_rfl) (fun _ _ _ h => h) (Or.inl ⟨by kernel_rfl, ?_⟩) hS ?_
  · intro w5 hSw
    clear hSw hS
    go_simp
  simp only [Act.put, List.setIfInBounds_toArray, List.set_cons_zero, List.set_cons_succ]
  refine wpAnyH_take (i := 1) (oi := { dst := some 36, op := Go.Op.move (Go.Operand.tmp 1), type := 3, pos := "fate.go:57", after := #[], guard := none }) (v := .int .i64 (i : Int)) rfl (by kernel_rfl) (by kernel_rfl) (by kernel_rfl) (fun _ _ _ h => h) (Or.inl ⟨by kernel_rfl, ?_⟩) hS ?_
  · intro w5 hSw
    clear hSw hS
    go_simp
  simp only [Act.put, List.setIfInBounds_toArray, List.set_cons_zero, List.set_cons_succ]
  refine wpAnyH_take (i := 2) (oi := { dst := some 37, op := Go.Op.move (Go.Operand.tmp 2), type := 47, pos := "fate.go:57", after := #[], guard := none }) (v := v) rfl (by kernel_rfl) (by kernel_rfl) (by kernel_rfl) (fun _ _ _ h => h) (Or.inl ⟨by kernel_rfl, ?_⟩) hS ?_
  · intro w5 hSw
    clear hSw hS
    go_simp
  simp only [Act.put, List.setIfInBounds_toArray, List.set_cons_zero, List.set_cons_succ]
  refine wpAnyH_take (i := 4) (oi := { dst := some 39, op := Go.Op.fieldAddr 58 (Go.Operand.tmp 7) 1, type := 0, pos := "fate.go:57", after := #[], guard := none }) (v := .pointer (some ⟨w.heap.size, 1, none⟩)) rfl (by kernel_rfl) (by kernel_rfl) (by kernel_rfl) (fun _ _ _ h => h) (Or.inl ⟨by kernel_rfl, ?_⟩) hS ?_
  · intro w5 hSw
    clear hSw hS
    go_simp
  simp only [Act.put, List.setIfInBounds_toArray, List.set_cons_zero, List.set_cons_succ]
  refine wpAnyH_take (i := 5) (oi := { dst := some 40, op := Go.Op.load 3 (Go.Operand.tmp 39), type := 3, pos := "fate.go:57", after := #[{ on := 4, ground := Go.Ground.data }], guard := none }) (v := .int .i64 (n : Int)) rfl (by kernel_rfl) (by kernel_rfl) (by kernel_rfl) (fun _ _ _ h => h) (Or.inl ⟨by kernel_rfl, ?_⟩) hS ?_
  · intro w5 hSw
    have h0 := (hSw.at HBx.out hbo).cell (i := 1) rfl
    clear hSw hS
    go_simp
  simp only [Act.put, List.setIfInBounds_toArray, List.set_cons_zero, List.set_cons_succ]
  refine wpAnyH_ready (rs := [3]) (by kernel_rfl) (by simp) ?_
  refine AllReadyH.cons (o := { dst := some 38, op := Go.Op.call { callee := Go.Callee.value (Go.Operand.func 51), args := #[Go.Operand.tmp 37], argTypes := #[47] }, type := 47, pos := "fate.go:57", after := #[{ on := 2, ground := Go.Ground.data }], guard := none }) rfl (fun K hK => ?_) AllReadyH.nil
  rw [if_pos (by kernel_rfl)]
  go_simp
  refine (Clone_walk v d (W0).drew (HDx.out.up (Up.refl _).drew) (by omega)).mono ?_
  rintro e w5 ⟨v5, rfl, o5, u5⟩
  dsimp only
  have HU5 := Hid.of ((Up.refl W0).drew.trans u5)
  have HO5 := Hid.of o5
  clear o5 u5 hS
  refine hK.out _ _ ((Fr.refl _ _).up HU5.out) (fun hS => ?_)
  clear hK K
  refine wpAnyH_ready (rs := [6]) (by kernel_rfl) (by simp) ?_
  refine AllReadyH.cons (o := { dst := some 41, op := Go.Op.call { callee := Go.Callee.value (Go.Operand.func 50), args := #[Go.Operand.tmp 35, Go.Operand.tmp 36, Go.Operand.tmp 38, Go.Operand.tmp 40], argTypes := #[22, 3, 47, 3] }, type := 0, pos := "fate.go:57", after := #[{ on := 0, ground := Go.Ground.data }, { on := 1, ground := Go.Ground.data }, { on := 3, ground := Go.Ground.data }, { on := 5, ground := Go.Ground.data }, { on := 3, ground := Go.Ground.chain }], guard := none }) rfl (fun K hK => ?_) AllReadyH.nil
  rw [if_pos (by kernel_rfl)]
  have hP := postN (N := w.heap.size) w5 S i n l ⟨v5, d⟩ (HNx.out.up HU5.out) HKx.out HLx.out HOx.out (ow_base HO5.out (Nat.zero_le _)) (fun g hg => Nat.le_trans HSz.out (World.ownsRow.lt HO5.out g hg).1) (fun g hg => cm_new HNx.out (World.ownsRow.lt HO5.out g hg).1) (by omega) hmn
  dsimp only at hP
  rw [HNb.out] at hP
  go_simp
  refine hP.mono ?_
  rintro e w6 ⟨rfl, S', h6, h7⟩
  dsimp only
  have HS6 := Hid.of (h6.base HU5.out)
  have H7 := Hid.of h7
  clear h6 h7 hS hP
  refine hK.out _ _ HS6.out.fr (fun hS => ?_)
  clear hK K hS
  refine wpAnyH_done (by kernel_rfl) ?_ _
  go_wp2
  go_end0
  exact ⟨rfl, S', by simpa [sendA] using HS6.out.base HU.out, H7.out⟩
set_option maxRecDepth 100000 in
theorem send_2 (w : World) (S : NS) (i n : Nat) (l : LC) (v : Value) (d : List UInt8) (h : NOk w S) (k : SOk S) (hl : S.ls[i]? = some l) (ho : l.sh = false) (hd : Sb w v d) (hdl : d.length ≤ 1048576) (hv : ∀ g, v.ownBlock = some g → ¬ own S g) (hn : n ≤ 1000) (hnow : S.now ≤ 2305843009213693952) (hmn : S.mn ≤ 549755813888) :
    Calls Try.prog 35 #[.pointer (some ⟨S.nb, 0, none⟩), .int .i64 (i : Int), v, .agg #[.int .i64 2, .int .i64 (n : Int)]] w fun e w' => e = .returned (.tuple #[]) ∧ ∃ S', Stp w.heap.size 1 w w' S S' (sendA (abs S) i d (2, (n : Int))) ∧ S'.ls.map (·.sh) = S.ls.map (·.sh) := by
  have HU := Hid.of ((Up.refl w).alloc (.cells #[.int .i64 2, .int .i64 (n : Int)] 58))
  have HB := Hid.of (at_new w 58 [.int .i64 2, .int .i64 (n : Int)])
  have HN := Hid.of h
  have HK := Hid.of k
  have HD := Hid.of hd
  have HL := Hid.of hl
  have HO := Hid.of ho
  have hlt : ∀ x, own S x → x < w.heap.size := fun x hx => h.lt hx
  have HLT := Hid.of hlt
  clear h k hd hl ho hlt
  go_enter Try.func35, Try.ntmps35
  go_wp2_with fail
  generalize w.alloc (.cells #[.int .i64 2, .int .i64 (n : Int)] 58) = W0 at *
  refine (Clone_walk v d W0 (HD.out.up HU.out) (by omega)).mono ?_
  rintro e w1 ⟨v1, rfl, o1, u1⟩
  have HU1 := Hid.of (HU.out.trans u1)
  have HB1 := Hid.of (HB.out.up u1)
  have hP := post0 (N := w.heap.size) w1 S i l ⟨v1, d⟩ (HN.out.up HU1.out) HK.out HL.out HO.out (ow_base o1 (Nat.zero_le _)) (fun g hg => Nat.le_trans HU.out.size (World.ownsRow.lt o1 g hg).1) (fun g hg => cm_new HN.out (Nat.le_trans HU.out.size (World.ownsRow.lt o1 g hg).1))
  have HD1 := Hid.of (HD.out.up HU1.out)
  dsimp only at hP ⊢
  go_wp2_with fail
  refine hP.mono ?_
  rintro e w2 ⟨rfl, S1, h2, h3⟩
  obtain ⟨lx, hlx, hox⟩ := shs_get h3 HL.out
  rw [HO.out] at hox
  have HNx := Hid.of h2.ok
  have HKx := Hid.of h2.so
  have HLx := Hid.of hlx
  have HOx := Hid.of hox
  have HNb := Hid.of h2.nb
  have hbo0 : ¬ own S w.heap.size := fun e => Nat.lt_irrefl _ (HLT.out _ e)
  have HBx := Hid.of (h2.fr.at HB1.out hbo0)
  have hbo : ¬ own S1 w.heap.size := fun e => by
    rcases h2.no _ e with h4 | h4
    · exact hbo0 h4
    · have := lt_of_at HB1.out
      omega
  have HDx := Hid.of (h2.fr.sb' HD1.out hv)
  have HSz := Hid.of (Nat.le_trans HU1.out.size h2.fr.size)
  have H2 := Hid.of (h2.base HU1.out)
  have H3 := Hid.of h3
  have hnow1 : S1.now = S.now := by
    have := congrArg AN.now h2.ab
    rw [postA, if_pos rfl] at this
    exact this
  have hmn1 := h2.mn
  have hab := Hid.of h2.ab
  clear h2 h3 hlx hox hP u1 o1 hbo0
  dsimp only
  go_wp2
  refine wp_region_held_drew (S := fun wz => Fr (own S1) w2 wz) (by kernel_rfl) ((Fr.refl (own S1) w2).up (Up.refl w2).drew) (fun hS => ?_)
  refine wpAnyH_take (i := 0) (oi := { dst := some 26, op := Go.Op.move (Go.Operand.tmp 0), type := 22, pos := "fate.go:55", after := #[], guard := none }) (v := .pointer (some ⟨S.nb, 0, none⟩)) rfl (by kernel_rfl) (by kernel_rfl) (by kernel_rfl) (fun _ _ _ h => h) (Or.inl ⟨by kernel_rfl, ?_⟩) hS ?_
  · intro w5 hSw
    clear hSw hS
    go_simp
  simp only [Act.put, List.setIfInBounds_toArray, List.set_cons_zero, List.set_cons_succ]
  refine wpAnyH_take (i := 1) (oi := { dst := some 27, op := Go.Op.move (Go.Operand.tmp 1), type := 3, pos := "fate.go:55", after := #[], guard := none }) (v := .int .i64 (i : Int)) rfl (by kernel_rfl) (by kernel_rfl) (by kernel_rfl) (fun _ _ _ h => h) (Or.inl ⟨by kernel_rfl, ?_⟩) hS ?_
  · intro w5 hSw
    clear hSw hS
    go_simp
  simp only [Act.put, List.setIfInBounds_toArray, List.set_cons_zero, List.set_cons_succ]
  refine wpAnyH_take (i := 2) (oi := { dst := some 28, op := Go.Op.move (Go.Operand.tmp 2), type := 47, pos := "fate.go:55", after := #[], guard := none }) (v := v) rfl (by kernel_rfl) (by kernel_rfl) (by kernel_rfl) (fun _ _ _ h => h) (Or.inl ⟨by kernel_rfl, ?_⟩) hS ?_
  · intro w5 hSw
    clear hSw hS
    go_simp
  simp only [Act.put, List.setIfInBounds_toArray, List.set_cons_zero, List.set_cons_succ]
  refine wpAnyH_take (i := 4) (oi := { dst := some 30, op := Go.Op.fieldAddr 58 (Go.Operand.tmp 7) 1, type := 0, pos := "fate.go:55", after := #[], guard := none }) (v := .pointer (some ⟨w.heap.size, 1, none⟩)) rfl (by kernel_rfl) (by kernel_rfl) (by kernel_rfl) (fun _ _ _ h => h) (Or.inl ⟨by kernel_rfl, ?_⟩) hS ?_
  · intro w5 hSw
    clear hSw hS
    go_simp
  simp only [Act.put, List.setIfInBounds_toArray, List.set_cons_zero, List.set_cons_succ]
  refine wpAnyH_take (i := 5) (oi := { dst := some 31, op := Go.Op.load 3 (Go.Operand.tmp 30), type := 3, pos := "fate.go:55", after := #[{ on := 4, ground := Go.Ground.data }], guard := none }) (v := .int .i64 (n : Int)) rfl (by kernel_rfl) (by kernel_rfl) (by kernel_rfl) (fun _ _ _ h => h) (Or.inl ⟨by kernel_rfl, ?_⟩) hS ?_
  · intro w5 hSw
    have h0 := (hSw.at HBx.out hbo).cell (i := 1) rfl
    clear hSw hS
    go_simp
  simp only [Act.put, List.setIfInBounds_toArray, List.set_cons_zero, List.set_cons_succ]
  refine wpAnyH_ready (rs := [3]) (by kernel_rfl) (by simp) ?_
  refine AllReadyH.cons (o := { dst := some 29, op := Go.Op.call { callee := Go.Callee.value (Go.Operand.func 51), args := #[Go.Operand.tmp 28], argTypes := #[47] }, type := 47, pos := "fate.go:55", after := #[{ on := 2, ground := Go.Ground.data }], guard := none }) rfl (fun K hK => ?_) AllReadyH.nil
  rw [if_pos (by kernel_rfl)]
  go_simp
  refine (Clone_walk v d (w2).drew (HDx.out.up (Up.refl _).drew) (by omega)).mono ?_
  rintro e w5 ⟨v5, rfl, o5, u5⟩
  dsimp only
  have HU5 := Hid.of ((Up.refl w2).drew.trans u5)
  have HO5 := Hid.of o5
  clear o5 u5 hS
  refine hK.out _ _ ((Fr.refl _ _).up HU5.out) (fun hS => ?_)
  clear hK K
  refine wpAnyH_ready (rs := [6]) (by kernel_rfl) (by simp) ?_
  refine AllReadyH.cons (o := { dst := some 32, op := Go.Op.call { callee := Go.Callee.value (Go.Operand.func 50), args := #[Go.Operand.tmp 26, Go.Operand.tmp 27, Go.Operand.tmp 29, Go.Operand.tmp 31], argTypes := #[22, 3, 47, 3] }, type := 0, pos := "fate.go:55", after := #[{ on := 0, ground := Go.Ground.data }, { on := 1, ground := Go.Ground.data }, { on := 3, ground := Go.Ground.data }, { on := 5, ground := Go.Ground.data }, { on := 3, ground := Go.Ground.chain }], guard := none }) rfl (fun K hK => ?_) AllReadyH.nil
  rw [if_pos (by kernel_rfl)]
  have hP := postN (N := w.heap.size) w5 S1 i n lx ⟨v5, d⟩ (HNx.out.up HU5.out) HKx.out HLx.out HOx.out (ow_base HO5.out (Nat.zero_le _)) (fun g hg => Nat.le_trans HSz.out (World.ownsRow.lt HO5.out g hg).1) (fun g hg => cm_new HNx.out (World.ownsRow.lt HO5.out g hg).1) (by omega) (by omega)
  dsimp only at hP
  rw [HNb.out] at hP
  go_simp
  refine hP.mono ?_
  rintro e w6 ⟨rfl, S', h6, h7⟩
  dsimp only
  have HS6 := Hid.of (h6.base HU5.out)
  have H7 := Hid.of h7
  clear h6 h7 hS hP
  refine hK.out _ _ HS6.out.fr (fun hS => ?_)
  clear hK K hS
  refine wpAnyH_done (by kernel_rfl) ?_ _
  go_wp2
  go_end0
  refine ⟨rfl, S', ?_, H7.out.trans H3.out⟩
  have := H2.out.trans HS6.out
  rw [hab.out] at this
  simpa [sendA] using this
set_option maxRecDepth 100000 in
theorem send_4 (w : World) (S : NS) (i n : Nat) (l : LC) (v : Value) (d : List UInt8) (h : NOk w S) (k : SOk S) (hl : S.ls[i]? = some l) (ho : l.sh = false) (hd : Sb w v d) (hdl : d.length ≤ 1048576) :
    Calls Try.prog 35 #[.pointer (some ⟨S.nb, 0, none⟩), .int .i64 (i : Int), v, .agg #[.int .i64 4, .int .i64 (n : Int)]] w fun e w' => e = .returned (.tuple #[]) ∧ ∃ S', Stp w.heap.size 1 w w' S S' (sendA (abs S) i d (4, (n : Int))) ∧ S'.ls.map (·.sh) = S.ls.map (·.sh) := by
  have HU := Hid.of ((Up.refl w).alloc (.cells #[.int .i64 4, .int .i64 (n : Int)] 58))
  have HB := Hid.of (at_new w 58 [.int .i64 4, .int .i64 (n : Int)])
  have HN := Hid.of h
  have HK := Hid.of k
  have HD := Hid.of hd
  have HL := Hid.of hl
  have HO := Hid.of ho
  have hlt : ∀ x, own S x → x < w.heap.size := fun x hx => h.lt hx
  have HLT := Hid.of hlt
  clear h k hd hl ho hlt
  go_enter Try.func35, Try.ntmps35
  obtain ⟨va, vc, rfl, hvl, hvm, hvn, hvs⟩ := id HD.out
  by_cases hc : n ≤ d.length
  · have z1 : (n : Int) ≤ (d.length : Int) := by omega
    have z2 : (n : Int) ≤ (vc : Int) := by omega
    have HDT := Hid.of (Sb.take' HD.out n (by omega))
    clear hvl hvm hvn hvs hc
    go_wp2_with fail
    generalize w.alloc (.cells #[.int .i64 4, .int .i64 (n : Int)] 58) = W0 at *
    refine (Clone_walk (.slice va n vc) (d.take n) W0 (HDT.out.up HU.out) (by simp only [List.length_take]; omega)).mono ?_
    rintro e w1 ⟨v1, rfl, o1, u1⟩
    have HU1 := Hid.of (HU.out.trans u1)
    have hP := post0 (N := w.heap.size) w1 S i l ⟨v1, d.take n⟩ (HN.out.up HU1.out) HK.out HL.out HO.out (ow_base o1 (Nat.zero_le _)) (fun g hg => Nat.le_trans HU.out.size (World.ownsRow.lt o1 g hg).1) (fun g hg => cm_new HN.out (Nat.le_trans HU.out.size (World.ownsRow.lt o1 g hg).1))
    dsimp only at hP ⊢
    go_wp2_with fail
    refine hP.mono ?_
    rintro e w2 ⟨rfl, S', h2, h3⟩
    dsimp only
    go_wp2
    go_end0
    exact ⟨rfl, S', by simpa [sendA] using (h2.base HU1.out).more (by omega), h3⟩
  · have z1 : ¬ ((n : Int) ≤ (d.length : Int)) := by omega
    have z3 : (d.length : Int) < (n : Int) := by omega
    have z2 : (d.length : Int) ≤ (vc : Int) := by omega
    have htk : d.take n = d.take d.length := by rw [List.take_of_length_le (by omega), List.take_of_length_le (Nat.le_refl _)]
    have HTK := Hid.of htk
    clear htk
    have HDT := Hid.of (Sb.take' HD.out d.length (by omega))
    clear hvl hvm hvn hvs hc
    go_wp2_with fail
    generalize w.alloc (.cells #[.int .i64 4, .int .i64 (n : Int)] 58) = W0 at *
    refine (Clone_walk (.slice va d.length vc) (d.take d.length) W0 (HDT.out.up HU.out) (by simp only [List.length_take]; omega)).mono ?_
    rintro e w1 ⟨v1, rfl, o1, u1⟩
    have HU1 := Hid.of (HU.out.trans u1)
    have hP := post0 (N := w.heap.size) w1 S i l ⟨v1, d.take d.length⟩ (HN.out.up HU1.out) HK.out HL.out HO.out (ow_base o1 (Nat.zero_le _)) (fun g hg => Nat.le_trans HU.out.size (World.ownsRow.lt o1 g hg).1) (fun g hg => cm_new HN.out (Nat.le_trans HU.out.size (World.ownsRow.lt o1 g hg).1))
    dsimp only at hP ⊢
    go_wp2_with fail
    refine hP.mono ?_
    rintro e w2 ⟨rfl, S', h2, h3⟩
    dsimp only
    go_wp2
    go_end0
    refine ⟨rfl, S', ?_, h3⟩
    have := (h2.base HU1.out).more (k' := 1) (by omega)
    rw [← HTK.out] at this
    simpa [sendA] using this
set_option maxRecDepth 100000 in
theorem send_5 (w : World) (S : NS) (i n : Nat) (l : LC) (v : Value) (d : List UInt8) (h : NOk w S) (k : SOk S) (hl : S.ls[i]? = some l) (ho : l.sh = false) (hd : Sb w v d) (hdl : d.length ≤ 1048576) :
    Calls Try.prog 35 #[.pointer (some ⟨S.nb, 0, none⟩), .int .i64 (i : Int), v, .agg #[.int .i64 5, .int .i64 (n : Int)]] w fun e w' => e = .returned (.tuple #[]) ∧ ∃ S', Stp w.heap.size 1 w w' S S' (sendA (abs S) i d (5, (n : Int))) ∧ S'.ls.map (·.sh) = S.ls.map (·.sh) := by
  have HU := Hid.of ((Up.refl w).alloc (.cells #[.int .i64 5, .int .i64 (n : Int)] 58))
  have HB := Hid.of (at_new w 58 [.int .i64 5, .int .i64 (n : Int)])
  have HN := Hid.of h
  have HK := Hid.of k
  have HD := Hid.of hd
  have HL := Hid.of hl
  have HO := Hid.of ho
  have hlt : ∀ x, own S x → x < w.heap.size := fun x hx => h.lt hx
  have HLT := Hid.of hlt
  clear h k hd hl ho hlt
  go_enter Try.func35, Try.ntmps35
  go_wp2_with fail
  generalize w.alloc (.cells #[.int .i64 5, .int .i64 (n : Int)] 58) = W0 at *
  refine (spoilt_walk v d n W0 (HD.out.up HU.out) (by omega)).mono ?_
  rintro e w1 ⟨v1, rfl, o1, u1⟩
  have HU1 := Hid.of (HU.out.trans u1)
  have hP := post0 (N := w.heap.size) w1 S i l ⟨v1, spl d n⟩ (HN.out.up HU1.out) HK.out HL.out HO.out (ow_base o1 (Nat.zero_le _)) (fun g hg => Nat.le_trans HU.out.size (World.ownsRow.lt o1 g hg).1) (fun g hg => cm_new HN.out (Nat.le_trans HU.out.size (World.ownsRow.lt o1 g hg).1))
  dsimp only at hP ⊢
  go_wp2_with fail
  refine hP.mono ?_
  rintro e w2 ⟨rfl, S', h2, h3⟩
  dsimp only
  go_wp2
  go_end0
  exact ⟨rfl, S', by simpa [sendA] using (h2.base HU1.out).more (by omega), h3⟩
end Go.Proofs.Ytdlfkdehfenemaa
