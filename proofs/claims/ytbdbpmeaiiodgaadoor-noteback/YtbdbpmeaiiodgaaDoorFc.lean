import Derived.Test.YtbdbpmeaiiodgaaDoorFb
import Derived.Test.YtbdbpmeaiiodgaaDoorBf
import Derived.Deep.MidRow
import Derived.Deep.RegionHeld3
namespace Go.Proofs.YtbdbpmeaiiodgaaDoor
open Go.RowKit TextNum
/-- a list that is read is appended to a list of one's own: one operation -/
theorem wp_appSl {o : Oper} {a : Act} {w : World} {K : Act → World → Prop} {Q : Exit → Act → World → Prop} (s x : Operand)
    (ho : o.op = .call { callee := .builtin .append, args := #[s, x], argTypes := #[22, 22] }) (B : Nat) (v vx : Value) (l m : List UInt8) (hs : a.eval s = v) (hown : Own w B v l)
    (hx : a.eval x = vx) (hm : Sl w vx m) (hn : l.length + m.length ≤ 140737488355328) (hB : B ≤ w.heap.size)
    (h : ∀ v' w', Own w' B v' (l ++ m) → Below B w w' → K (a.put o.dst v') w') : Oper.wp Tryd.prog o a w K Q := by
  obtain ⟨ad, c, rfl, hc, hm⟩ := hm
  cases ad with
  | some ad =>
    obtain ⟨i0, hi, hz0, hz1, hz2⟩ := info_parts Tryd.info8
    refine wp_append_own _ s x 22 ho B 5 i0 (.int .u8 0) 1 1 Tryd.underlying22 hi hz0 hz1 hz2 rfl (by decide) v l.length (cb l) hs hown ad m.length c (cb m) hx (by simp [cb]) ?_ (cb_one m) (by unfold maxLen; omega) (by omega) hB ?_
    · rcases hm with rfl | ⟨b, off, e, hb, hcell⟩
      · intro j u hj; simp [cb] at hj
      · cases e
        intro j u hj
        have hjl : j < m.length := by have := (List.getElem?_eq_some_iff.1 hj).1; rwa [cb_length] at this
        rw [cb_get hjl] at hj
        rw [add_plain, hcell j hjl]; exact hj
    · intro v' w' h1 h2 _
      refine h v' w' ?_ ((Below.refl B w).grown h2 hB (fun k hk => (World.ownsRow.lt hown k hk).1))
      unfold Own
      rw [List.length_append, cb_append]
      exact h1
  | none =>
    rcases hm with rfl | ⟨b, off, e, _⟩
    · have hr := run_app_none (ty := o.type) (c := c) hown
      unfold Oper.wp execOp
      simp only [List.length_nil] at hx
      simp only [ho, resolve, invoke, builtin, Sem.run_bind, Sem.run_pure, Result.andThen_ok, List.map_toArray, List.map_cons, List.map_nil, hs, hx, hr]
      exact h v w (by rw [List.append_nil]; exact hown) (Below.refl _ _)
    · cases e
set_option maxRecDepth 100000 in
set_option maxHeartbeats 1000000 in
theorem sigLine_walk (s : Sg) (a : Option Addr) (c : Nat) (w : World) (hT : TabL w) (hb : Sl w (.slice a s.bytes.length c) s.bytes) (hn : s.name.size ≤ 65536) (hl : s.bytes.length ≤ 65536) (hh : s.hash < 4294967296) :
    Calls Tryd.prog 60 #[.agg #[.string s.name, .int .u32 (s.hash : Int), .slice a s.bytes.length c]] w fun e w' => e = .returned (vs (sigB s ++ [10])) ∧ Up w w' := by
  have HT := Hid.of hT
  have HB := Hid.of hb
  clear hT hb
  obtain ⟨name, hash, bytes⟩ := s
  dsimp only at HB hl hn hh ⊢
  generalize hs1 : (⟨#[226, 128, 148, 32]⟩ : ByteArray) ++ name = s1
  have k1 : s1.size ≤ 65540 := by rw [← hs1, ByteArray.size_append, show (⟨#[226, 128, 148, 32]⟩ : ByteArray).size = 4 from rfl]; omega
  generalize hs2 : s1 ++ (⟨#[32]⟩ : ByteArray) = s2
  have k2 : s2.size ≤ 65541 := by rw [← hs2, ByteArray.size_append, show (⟨#[32]⟩ : ByteArray).size = 1 from rfl]; omega
  generalize hs3 : (⟨(b64E (hb4 hash ++ bytes)).toArray⟩ : ByteArray) = s3
  have k3 : s3.size ≤ 131072 := by rw [← hs3, Go.Lib.size_eq]; simp only [b64E_length, List.length_append, hb4, List.length_cons, List.length_nil]; omega
  generalize hs4 : s2 ++ s3 = s4
  have k4 : s4.size ≤ 196613 := by rw [← hs4, ByteArray.size_append]; omega
  generalize hs5 : s4 ++ (⟨#[10]⟩ : ByteArray) = s5
  have k5 : s5.size ≤ 196614 := by rw [← hs5, ByteArray.size_append, show (⟨#[10]⟩ : ByteArray).size = 1 from rfl]; omega
  have HE := Hid.of (show vs (sigB ⟨name, hash, bytes⟩ ++ [10]) = .string s5 by
    rw [← hs5, ← hs4, ← hs3, ← hs2, ← hs1]
    unfold vs
    refine congrArg Value.string (ba_list7 ?_)
    simp [sigB, MK, ByteArray.data_append])
  have HL := Hid.of hl
  clear hl
  go_enter Tryd.func60, Tryd.ntmps60
  go_wp2_with fail
  generalize hnb : bytes.length = nb at *
  refine wp_region_held_drew (S := fun w2 => w2.cell? ⟨w.heap.size, 0, none⟩ = some (.string name) ∧ w2.cell? ⟨w.heap.size, 1, none⟩ = some (.int .u32 (hash : Int)) ∧ w2.cell? ⟨w.heap.size, 2, none⟩ = some (.slice a nb c) ∧ Up (w.alloc (.cells #[.string name, .int .u32 (hash : Int), .slice a nb c] 42)) w2) (by kernel_rfl) ⟨by simp, by simp, by simp, (Up.refl _).drew⟩ (fun hS => ?_)
  refine wpAnyH_take (i := 0) (oi := { dst := some 3, op := Go.Op.fieldAddr 42 (Go.Operand.tmp 1) 0, type := 0, pos := "note.go:70", after := #[], guard := none }) (v := .pointer (some ⟨w.heap.size, 0, none⟩)) rfl (by kernel_rfl) (by kernel_rfl) (by kernel_rfl) (fun _ _ _ h => h) (Or.inl ⟨by kernel_rfl, ?_⟩) hS ?_
  · intro w5 hSw
    clear hSw hS
    go_simp
  simp only [Act.put, List.setIfInBounds_toArray, List.set_cons_zero, List.set_cons_succ]
  refine wpAnyH_take (i := 1) (oi := { dst := some 4, op := Go.Op.load 9 (Go.Operand.tmp 3), type := 9, pos := "note.go:70", after := #[{ on := 0, ground := Go.Ground.data }], guard := none }) (v := .string name) rfl (by kernel_rfl) (by kernel_rfl) (by kernel_rfl) (fun _ _ _ h => h) (Or.inl ⟨by kernel_rfl, ?_⟩) hS ?_
  · intro w5 hSw
    have h1 := hSw.1
    have h2 := hSw.2.1
    have h3 := hSw.2.2.1
    clear hSw
    go_simp
  simp only [Act.put, List.setIfInBounds_toArray, List.set_cons_zero, List.set_cons_succ]
  refine wpAnyH_take (i := 2) (oi := { dst := some 5, op := Go.Op.binOp Go.BinOp.add 9 (Go.Operand.const (Go.Value.string { data := #[226, 128, 148, 32] })) (Go.Operand.tmp 4) 9, type := 9, pos := "note.go:70", after := #[{ on := 1, ground := Go.Ground.data }], guard := none }) (v := .string s1) rfl (by kernel_rfl) (by kernel_rfl) (by kernel_rfl) (fun _ _ _ h => h) (Or.inl ⟨by kernel_rfl, ?_⟩) hS ?_
  · intro w5 hSw
    clear hSw hS
    go_simp <;> omega
  simp only [Act.put, List.setIfInBounds_toArray, List.set_cons_zero, List.set_cons_succ]
  refine wpAnyH_take (i := 3) (oi := { dst := some 6, op := Go.Op.binOp Go.BinOp.add 9 (Go.Operand.tmp 5) (Go.Operand.const (Go.Value.string { data := #[32] })) 9, type := 9, pos := "note.go:70", after := #[{ on := 2, ground := Go.Ground.data }], guard := none }) (v := .string s2) rfl (by kernel_rfl) (by kernel_rfl) (by kernel_rfl) (fun _ _ _ h => h) (Or.inl ⟨by kernel_rfl, ?_⟩) hS ?_
  · intro w5 hSw
    clear hSw hS
    go_simp <;> omega
  simp only [Act.put, List.setIfInBounds_toArray, List.set_cons_zero, List.set_cons_succ]
  refine wpAnyH_take (i := 4) (oi := { dst := some 7, op := Go.Op.fieldAddr 42 (Go.Operand.tmp 1) 1, type := 0, pos := "note.go:70", after := #[], guard := none }) (v := .pointer (some ⟨w.heap.size, 1, none⟩)) rfl (by kernel_rfl) (by kernel_rfl) (by kernel_rfl) (fun _ _ _ h => h) (Or.inl ⟨by kernel_rfl, ?_⟩) hS ?_
  · intro w5 hSw
    clear hSw hS
    go_simp
  simp only [Act.put, List.setIfInBounds_toArray, List.set_cons_zero, List.set_cons_succ]
  refine wpAnyH_take (i := 5) (oi := { dst := some 8, op := Go.Op.load 40 (Go.Operand.tmp 7), type := 40, pos := "note.go:70", after := #[{ on := 4, ground := Go.Ground.data }], guard := none }) (v := .int .u32 (hash : Int)) rfl (by kernel_rfl) (by kernel_rfl) (by kernel_rfl) (fun _ _ _ h => h) (Or.inl ⟨by kernel_rfl, ?_⟩) hS ?_
  · intro w5 hSw
    have h1 := hSw.1
    have h2 := hSw.2.1
    have h3 := hSw.2.2.1
    clear hSw
    go_simp
  simp only [Act.put, List.setIfInBounds_toArray, List.set_cons_zero, List.set_cons_succ]
  refine wpAnyH_take (i := 7) (oi := { dst := some 10, op := Go.Op.fieldAddr 42 (Go.Operand.tmp 1) 2, type := 0, pos := "note.go:70", after := #[], guard := none }) (v := .pointer (some ⟨w.heap.size, 2, none⟩)) rfl (by kernel_rfl) (by kernel_rfl) (by kernel_rfl) (fun _ _ _ h => h) (Or.inl ⟨by kernel_rfl, ?_⟩) hS ?_
  · intro w5 hSw
    clear hSw hS
    go_simp
  simp only [Act.put, List.setIfInBounds_toArray, List.set_cons_zero, List.set_cons_succ]
  refine wpAnyH_take (i := 8) (oi := { dst := some 11, op := Go.Op.load 22 (Go.Operand.tmp 10), type := 22, pos := "note.go:70", after := #[{ on := 7, ground := Go.Ground.data }], guard := none }) (v := .slice a nb c) rfl (by kernel_rfl) (by kernel_rfl) (by kernel_rfl) (fun _ _ _ h => h) (Or.inl ⟨by kernel_rfl, ?_⟩) hS ?_
  · intro w5 hSw
    have h1 := hSw.1
    have h2 := hSw.2.1
    have h3 := hSw.2.2.1
    clear hSw
    go_simp
  simp only [Act.put, List.setIfInBounds_toArray, List.set_cons_zero, List.set_cons_succ]
  refine wpAnyH_ready (rs := [6]) (by kernel_rfl) (by simp) ?_
  refine AllReadyH.cons (o := { dst := some 9, op := Go.Op.call { callee := Go.Callee.value (Go.Operand.func 83), args := #[Go.Operand.tmp 8], argTypes := #[40] }, type := 22, pos := "note.go:70", after := #[{ on := 5, ground := Go.Ground.data }], guard := none }) rfl (fun K hK => ?_) AllReadyH.nil
  rw [if_pos (by kernel_rfl)]
  go_simp
  refine (hashBytes_walk hash hh _).mono ?_
  rintro e w2 ⟨v6, rfl, hO, u⟩
  dsimp only
  have hS2 := (show _ ∧ _ ∧ _ ∧ Up (w.alloc (.cells #[.string name, .int .u32 (hash : Int), .slice a nb c] 42)) w2 from ⟨u.cell hS.1, u.cell hS.2.1, u.cell hS.2.2.1, hS.2.2.2.trans u⟩)
  clear hS
  refine hK.out _ _ hS2 (fun hS => ?_)
  clear hK hS2 K
  refine wpAnyH_ready (rs := [9]) (by kernel_rfl) (by simp) ?_
  refine AllReadyH.cons (o := { dst := some 12, op := Go.Op.call { callee := Go.Callee.builtin Go.Builtin.append, args := #[Go.Operand.tmp 9, Go.Operand.tmp 11], argTypes := #[22, 22] }, type := 22, pos := "note.go:70", after := #[{ on := 6, ground := Go.Ground.data }, { on := 8, ground := Go.Ground.data }, { on := 6, ground := Go.Ground.chain }], guard := none }) rfl (fun K hK => ?_) AllReadyH.nil
  rw [if_pos (by kernel_rfl)]
  refine wp_appSl (Operand.tmp 9) (Operand.tmp 11) rfl _ v6 (.slice a nb c) (hb4 hash) bytes rfl hO rfl (by exact HB.out.up (((Up.refl w).alloc _).trans hS.2.2.2)) (by have := HL.out; simp [hb4]; omega) (Nat.le_trans (by simp) u.size) ?_
  intro v9 w3 hO9 hB9
  simp only [Act.put, List.setIfInBounds_toArray, List.set_cons_zero, List.set_cons_succ]
  have u3 : Up (w.alloc (.cells #[.string name, .int .u32 (hash : Int), .slice a nb c] 42)) w3 := Up.step hS.2.2.2 (by simp) hB9
  have hS2 := (show w3.cell? ⟨w.heap.size, 0, none⟩ = some (.string name) ∧ w3.cell? ⟨w.heap.size, 1, none⟩ = some (.int .u32 (hash : Int)) ∧ w3.cell? ⟨w.heap.size, 2, none⟩ = some (.slice a nb c) ∧ Up (w.alloc (.cells #[.string name, .int .u32 (hash : Int), .slice a nb c] 42)) w3 from ⟨u3.cell (by simp), u3.cell (by simp), u3.cell (by simp), u3⟩)
  have HO9 := Hid.of hO9.sl
  clear hS hO u hB9 u3 hO9
  refine hK.out _ _ hS2 (fun hS => ?_)
  clear hK hS2 K
  obtain ⟨n9, a9, c9, rfl⟩ : ∃ n a c, v9 = .slice a n c := by
    obtain ⟨a9, c9, e, _⟩ := HO9.out
    exact ⟨_, a9, c9, e⟩
  refine wpAnyH_ready (rs := [10]) (by kernel_rfl) (by simp) ?_
  refine AllReadyH.cons (o := { dst := some 13, op := Go.Op.call { callee := Go.Callee.value (Go.Operand.func 10), args := #[Go.Operand.tmp 12], argTypes := #[22] }, type := 9, pos := "note.go:70", after := #[{ on := 9, ground := Go.Ground.data }, { on := 9, ground := Go.Ground.chain }], guard := none }) rfl (fun K hK => ?_) AllReadyH.nil
  rw [if_pos (by kernel_rfl)]
  go_simp
  refine (EncodeBase64_walk _ (hb4 hash ++ bytes) w3 (HT.out.up (((Up.refl w).alloc _).trans hS.2.2.2)) HO9.out (by have := HL.out; simp [hb4]; omega)).mono ?_
  rintro e w4 ⟨rfl, u⟩
  rw [show vs (b64E (hb4 hash ++ bytes)) = .string s3 by rw [← hs3]]
  dsimp only
  have hS2 := (show w4.cell? ⟨w.heap.size, 0, none⟩ = some (.string name) ∧ w4.cell? ⟨w.heap.size, 1, none⟩ = some (.int .u32 (hash : Int)) ∧ w4.cell? ⟨w.heap.size, 2, none⟩ = some (.slice a nb c) ∧ Up (w.alloc (.cells #[.string name, .int .u32 (hash : Int), .slice a nb c] 42)) w4 from ⟨u.cell hS.1, u.cell hS.2.1, u.cell hS.2.2.1, hS.2.2.2.trans u⟩)
  clear hS u HO9
  refine hK.out _ _ hS2 (fun hS => ?_)
  clear hK hS2 K
  refine wpAnyH_take (i := 11) (oi := { dst := some 14, op := Go.Op.binOp Go.BinOp.add 9 (Go.Operand.tmp 6) (Go.Operand.tmp 13) 9, type := 9, pos := "note.go:70", after := #[{ on := 3, ground := Go.Ground.data }, { on := 10, ground := Go.Ground.data }], guard := none }) (v := .string s4) rfl (by kernel_rfl) (by kernel_rfl) (by kernel_rfl) (fun _ _ _ h => h) (Or.inl ⟨by kernel_rfl, ?_⟩) hS ?_
  · intro w5 hSw
    clear hSw hS
    go_simp <;> omega
  simp only [Act.put, List.setIfInBounds_toArray, List.set_cons_zero, List.set_cons_succ]
  refine wpAnyH_take (i := 12) (oi := { dst := some 15, op := Go.Op.binOp Go.BinOp.add 9 (Go.Operand.tmp 14) (Go.Operand.const (Go.Value.string { data := #[10] })) 9, type := 9, pos := "note.go:70", after := #[{ on := 11, ground := Go.Ground.data }], guard := none }) (v := .string s5) rfl (by kernel_rfl) (by kernel_rfl) (by kernel_rfl) (fun _ _ _ h => h) (Or.inl ⟨by kernel_rfl, ?_⟩) hS ?_
  · intro w5 hSw
    clear hSw hS
    go_simp <;> omega
  simp only [Act.put, List.setIfInBounds_toArray, List.set_cons_zero, List.set_cons_succ]
  refine wpAnyH_take (i := 13) (oi := { dst := some 2, op := Go.Op.assign (Go.Operand.tmp 15), type := 9, pos := "note.go:70", after := #[{ on := 12, ground := Go.Ground.data }, { on := 10, ground := Go.Ground.chain }, { on := 0, ground := Go.Ground.phase }, { on := 1, ground := Go.Ground.phase }, { on := 2, ground := Go.Ground.phase }, { on := 3, ground := Go.Ground.phase }, { on := 4, ground := Go.Ground.phase }, { on := 5, ground := Go.Ground.phase }, { on := 6, ground := Go.Ground.phase }, { on := 7, ground := Go.Ground.phase }, { on := 8, ground := Go.Ground.phase }, { on := 9, ground := Go.Ground.phase }, { on := 10, ground := Go.Ground.phase }, { on := 11, ground := Go.Ground.phase }, { on := 12, ground := Go.Ground.phase }], guard := none }) (v := .string s5) rfl (by kernel_rfl) (by kernel_rfl) (by kernel_rfl) (fun _ _ _ h => h) (Or.inl ⟨by kernel_rfl, ?_⟩) hS ?_
  · intro w5 hSw
    clear hSw hS
    go_simp
  simp only [Act.put, List.setIfInBounds_toArray, List.set_cons_zero, List.set_cons_succ]
  have HU := Hid.of (((Up.refl w).alloc _).trans hS.2.2.2)
  clear hS
  refine wpAnyH_done (by kernel_rfl) ?_ _
  go_wp2
  go_ret
  exact ⟨by rw [HE.out]; rfl, HU.out⟩
end Go.Proofs.YtbdbpmeaiiodgaaDoor
