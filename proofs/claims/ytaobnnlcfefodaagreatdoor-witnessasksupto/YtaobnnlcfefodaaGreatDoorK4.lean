import Derived.Test.YtaobnnlcfefodaaGreatDoorK8
import Derived.Test.YtaobnnlcfefodaaGreatDoorK3
import Derived.Test.YtaobnnlcfefodaaGreatDoorNr
import Derived.Deep.MidRow
import Derived.Deep.RegionHeld3
namespace Go.Proofs.YtaobnnlcfefodaaGreatDoor
open Go.RowKit TextNum
set_option maxRecDepth 100000 in
theorem four_walk (h : Nat) (hh : h < 4294967296) (w : World) : Calls Tryz.prog 56 #[.int .u32 (h : Int)] w fun e w' => ∃ v, e = .returned v ∧ Own w' w.heap.size v (hb4 h) ∧ Up w w' := by
  go_enter Tryz.func56, Tryz.ntmps56
  go_wp2
  go_ret
  refine ⟨_, rfl, ?_, (Up.refl w).alloc _⟩
  have e : #[Value.int IntKind.u8 ((h : Int) / 16777216), Value.int IntKind.u8 ((h : Int) / 65536 % 256), Value.int IntKind.u8 ((h : Int) / 256 % 256), Value.int IntKind.u8 ((h : Int) % 256)] = (cb (hb4 h)).toArray := by
    have e1 : (h : Int) / 16777216 = ((UInt8.ofNat (h / 16777216)).toNat : Int) := by rw [UInt8.toNat_ofNat']; omega
    have e2 : (h : Int) / 65536 % 256 = ((UInt8.ofNat (h / 65536)).toNat : Int) := by rw [UInt8.toNat_ofNat']; omega
    have e3 : (h : Int) / 256 % 256 = ((UInt8.ofNat (h / 256)).toNat : Int) := by rw [UInt8.toNat_ofNat']; omega
    have e4 : (h : Int) % 256 = ((UInt8.ofNat h).toNat : Int) := by rw [UInt8.toNat_ofNat']; omega
    rw [e1, e2, e3, e4]
    rfl
  rw [e]
  have := World.ownsRow_lit (base := w.heap.size) (e := 5) (size := 1) w (cb (hb4 h)).toArray 4 (Nat.le_refl _) (by unfold maxLen; omega) (by simp [cb, hb4])
  simpa [Own, hb4, cb] using this
set_option maxRecDepth 100000 in
set_option maxHeartbeats 1000000 in
theorem line_walk (s : Sg) (a : Option Addr) (c : Nat) (w : World) (hb : Sl w (.slice a s.bytes.length c) s.bytes) (hn : s.name.size ≤ 65536) (hl : s.bytes.length ≤ 65536) (hh : s.hash < 4294967296) :
    Calls Tryz.prog 43 #[.agg #[.string s.name, .int .u32 (s.hash : Int), .slice a s.bytes.length c]] w fun e w' => e = .returned (vs (sigB s ++ [10])) ∧ Up w w' := by
  have HB := Hid.of hb
  clear hb
  obtain ⟨name, hash, bytes⟩ := s
  dsimp only at HB hl hn hh ⊢
  generalize hs1 : (⟨#[226, 128, 148, 32]⟩ : ByteArray) ++ name = s1
  have k1 : s1.size ≤ 65540 := by rw [← hs1, ByteArray.size_append, show (⟨#[226, 128, 148, 32]⟩ : ByteArray).size = 4 from rfl]; omega
  generalize hs2 : s1 ++ (⟨#[32]⟩ : ByteArray) = s2
  have k2 : s2.size ≤ 65541 := by rw [← hs2, ByteArray.size_append, show (⟨#[32]⟩ : ByteArray).size = 1 from rfl]; omega
  generalize hs3 : (⟨(b64E (hb4 hash ++ bytes)).toArray⟩ : ByteArray) = s3
  have k3 : s3.size ≤ 131072 := by rw [← hs3, Go.Lib.size_eq]; simp only [b64E_length, List.length_append, hb4, List.length_cons, List.length_nil]; omega
  generalize hs4 : s2 ++ s3 = s4
  have k4 : s4.size ≤ 196613 := by rw [← hs4, ByteArray.size_append]; omega
  generalize hs5 : s4 ++ (⟨#[10]⟩ : ByteArray) = s5
  have k5 : s5.size ≤ 196614 := by rw [← hs5, ByteArray.size_append, show (⟨#[10]⟩ : ByteArray).size = 1 from rfl]; omega
  have HE := Hid.of (show vs (sigB ⟨name, hash, bytes⟩ ++ [10]) = .string s5 by
    rw [← hs5, ← hs4, ← hs3, ← hs2, ← hs1]
    unfold vs
    refine congrArg Value.string (ba_list7 ?_)
    simp [sigB, MK, ByteArray.data_append])
  have HL := Hid.of hl
  clear hl
  go_enter Tryz.func43, Tryz.ntmps43
  go_wp2_with fail
  generalize hnb : bytes.length = nb at *
  refine (four_walk hash hh _).mono ?_
  rintro e w1 ⟨v1, rfl, hO, u1⟩
  have u0 := (Up.refl w).alloc (.cells #[.string name, .int .u32 (hash : Int), .slice a nb c] 71)
  have c1 : w1.cell? ⟨w.heap.size, 0, none⟩ = some (.string name) := u1.cell (by rw [World.cell?_alloc_at _ _ _ _ rfl]; rfl)
  have c3 : w1.cell? ⟨w.heap.size, 2, none⟩ = some (.slice a nb c) := u1.cell (by rw [World.cell?_alloc_at _ _ _ _ rfl]; rfl)
  have hz1 : w.heap.size < w1.heap.size := Nat.lt_of_lt_of_le (by simp) u1.size
  have H1 := Hid.of (And.intro hO (And.intro (u0.trans u1) (And.intro hz1 (And.intro u1.size (HB.out.up (u0.trans u1))))))
  generalize hb0 : (w.alloc (.cells #[.string name, .int .u32 (hash : Int), .slice a nb c] 71)).heap.size = B0 at H1
  have hB0 : w.heap.size < B0 := by rw [← hb0]; simp
  clear hO u1 u0 hb0 hz1
  dsimp only
  go_wp2_with (with_reducible show wpList _ _ _ ({ dst := _, op := Op.call { callee := Callee.builtin Builtin.append, args := _, argTypes := _ }, type := _, pos := _, after := _, guard := _ } :: _) _ _; refine Shut.out ?_)
  show wpList _ _ _ _ _ _
  refine wpList_appSl rfl _ _ rfl B0 v1 (.slice a nb c) (hb4 hash) bytes rfl H1.out.1 rfl H1.out.2.2.2.2 (by have := HL.out; simp [hb4]; omega) H1.out.2.2.2.1 ?_
  intro v9 w3 hO9 hB9
  simp only [Act.put, List.setIfInBounds_toArray, List.set_cons_zero, List.set_cons_succ]
  have u3 : Up w w3 := H1.out.2.1.step (by omega) hB9
  have c1' : w3.cell? ⟨w.heap.size, 0, none⟩ = some (.string name) := by rw [Below.cell hB9 (p := ⟨w.heap.size, 0, none⟩) hB0]; exact c1
  obtain ⟨a9, c9, rfl⟩ := hO9.len
  have HO9 := Hid.of hO9.sl
  generalize (hb4 hash ++ bytes).length = n9 at *
  clear c1 c3 hO9 hB9 H1
  go_wp2_with fail
  refine wp_region_held_drew (S := fun w2 => w2.cell? ⟨w.heap.size, 0, none⟩ = some (.string name) ∧ Sl w2 (.slice a9 n9 c9) (hb4 hash ++ bytes) ∧ Up w w2) (by kernel_rfl) ⟨c1', HO9.out.up (Up.refl w3).drew, u3.drew⟩ (fun hS => ?_)
  clear c1' HO9 u3
  refine wpAnyH_take (i := 0) (oi := { dst := some 11, op := Go.Op.fieldAddr 71 (Go.Operand.tmp 1) 0, type := 0, pos := "ref.go:290", after := #[], guard := none }) (v := .pointer (some ⟨w.heap.size, 0, none⟩)) rfl (by kernel_rfl) (by kernel_rfl) (by kernel_rfl) (fun _ _ _ h => h) (Or.inl ⟨by kernel_rfl, ?_⟩) hS ?_
  · intro w5 hSw
    clear hSw hS
    go_simp
  simp only [Act.put, List.setIfInBounds_toArray, List.set_cons_zero, List.set_cons_succ]
  refine wpAnyH_take (i := 1) (oi := { dst := some 12, op := Go.Op.load 9 (Go.Operand.tmp 11), type := 9, pos := "ref.go:290", after := #[{ on := 0, ground := Go.Ground.data }], guard := none }) (v := .string name) rfl (by kernel_rfl) (by kernel_rfl) (by kernel_rfl) (fun _ _ _ h => h) (Or.inl ⟨by kernel_rfl, ?_⟩) hS ?_
  · intro w5 hSw
    have h1 := hSw.1
    clear hSw hS
    go_simp
  simp only [Act.put, List.setIfInBounds_toArray, List.set_cons_zero, List.set_cons_succ]
  refine wpAnyH_take (i := 2) (oi := { dst := some 13, op := Go.Op.binOp Go.BinOp.add 9 (Go.Operand.const (Go.Value.string { data := #[226, 128, 148, 32] })) (Go.Operand.tmp 12) 9, type := 9, pos := "ref.go:290", after := #[{ on := 1, ground := Go.Ground.data }], guard := none }) (v := .string s1) rfl (by kernel_rfl) (by kernel_rfl) (by kernel_rfl) (fun _ _ _ h => h) (Or.inl ⟨by kernel_rfl, ?_⟩) hS ?_
  · intro w5 hSw
    clear hSw hS
    go_simp <;> omega
  simp only [Act.put, List.setIfInBounds_toArray, List.set_cons_zero, List.set_cons_succ]
  refine wpAnyH_take (i := 3) (oi := { dst := some 14, op := Go.Op.binOp Go.BinOp.add 9 (Go.Operand.tmp 13) (Go.Operand.const (Go.Value.string { data := #[32] })) 9, type := 9, pos := "ref.go:290", after := #[{ on := 2, ground := Go.Ground.data }], guard := none }) (v := .string s2) rfl (by kernel_rfl) (by kernel_rfl) (by kernel_rfl) (fun _ _ _ h => h) (Or.inl ⟨by kernel_rfl, ?_⟩) hS ?_
  · intro w5 hSw
    clear hSw hS
    go_simp <;> omega
  simp only [Act.put, List.setIfInBounds_toArray, List.set_cons_zero, List.set_cons_succ]
  refine wpAnyH_take (i := 4) (oi := { dst := some 15, op := Go.Op.move (Go.Operand.tmp 3), type := 23, pos := "ref.go:290", after := #[], guard := none }) (v := .slice a9 n9 c9) rfl (by kernel_rfl) (by kernel_rfl) (by kernel_rfl) (fun _ _ _ h => h) (Or.inl ⟨by kernel_rfl, ?_⟩) hS ?_
  · intro w5 hSw
    clear hSw hS
    go_simp
  simp only [Act.put, List.setIfInBounds_toArray, List.set_cons_zero, List.set_cons_succ]
  refine wpAnyH_ready (rs := [5]) (by kernel_rfl) (by simp) ?_
  refine AllReadyH.cons (o := { dst := some 16, op := Go.Op.call { callee := Go.Callee.value (Go.Operand.func 19), args := #[Go.Operand.tmp 15], argTypes := #[23] }, type := 9, pos := "ref.go:290", after := #[{ on := 4, ground := Go.Ground.data }], guard := none }) rfl (fun K hK => ?_) AllReadyH.nil
  rw [if_pos (by kernel_rfl)]
  go_simp
  refine (REncode64_walk _ (hb4 hash ++ bytes) _ hS.2.1 (by have := HL.out; simp [hb4]; omega)).mono ?_
  rintro e w4 ⟨rfl, u⟩
  rw [show vs (b64E (hb4 hash ++ bytes)) = .string s3 by rw [← hs3]]
  dsimp only
  have hS2 := And.intro (u.cell hS.1) (And.intro (hS.2.1.up u) (hS.2.2.trans u))
  clear hS u
  refine hK.out _ _ hS2 (fun hS => ?_)
  clear hK hS2 K
  refine wpAnyH_take (i := 6) (oi := { dst := some 17, op := Go.Op.binOp Go.BinOp.add 9 (Go.Operand.tmp 14) (Go.Operand.tmp 16) 9, type := 9, pos := "ref.go:290", after := #[{ on := 3, ground := Go.Ground.data }, { on := 5, ground := Go.Ground.data }], guard := none }) (v := .string s4) rfl (by kernel_rfl) (by kernel_rfl) (by kernel_rfl) (fun _ _ _ h => h) (Or.inl ⟨by kernel_rfl, ?_⟩) hS ?_
  · intro w5 hSw
    clear hSw hS
    go_simp <;> omega
  simp only [Act.put, List.setIfInBounds_toArray, List.set_cons_zero, List.set_cons_succ]
  refine wpAnyH_take (i := 7) (oi := { dst := some 18, op := Go.Op.binOp Go.BinOp.add 9 (Go.Operand.tmp 17) (Go.Operand.const (Go.Value.string { data := #[10] })) 9, type := 9, pos := "ref.go:290", after := #[{ on := 6, ground := Go.Ground.data }], guard := none }) (v := .string s5) rfl (by kernel_rfl) (by kernel_rfl) (by kernel_rfl) (fun _ _ _ h => h) (Or.inl ⟨by kernel_rfl, ?_⟩) hS ?_
  · intro w5 hSw
    clear hSw hS
    go_simp <;> omega
  simp only [Act.put, List.setIfInBounds_toArray, List.set_cons_zero, List.set_cons_succ]
  refine wpAnyH_take (i := 8) (oi := { dst := some 2, op := Go.Op.assign (Go.Operand.tmp 18), type := 9, pos := "ref.go:290", after := #[{ on := 7, ground := Go.Ground.data }, { on := 5, ground := Go.Ground.chain }, { on := 0, ground := Go.Ground.phase }, { on := 1, ground := Go.Ground.phase }, { on := 2, ground := Go.Ground.phase }, { on := 3, ground := Go.Ground.phase }, { on := 4, ground := Go.Ground.phase }, { on := 5, ground := Go.Ground.phase }, { on := 6, ground := Go.Ground.phase }, { on := 7, ground := Go.Ground.phase }], guard := none }) (v := .string s5) rfl (by kernel_rfl) (by kernel_rfl) (by kernel_rfl) (fun _ _ _ h => h) (Or.inl ⟨by kernel_rfl, ?_⟩) hS ?_
  · intro w5 hSw
    clear hSw hS
    go_simp
  simp only [Act.put, List.setIfInBounds_toArray, List.set_cons_zero, List.set_cons_succ]
  have HU := Hid.of hS.2.2
  clear hS
  refine wpAnyH_done (by kernel_rfl) ?_ _
  go_wp2
  go_ret
  exact ⟨by rw [HE.out]; rfl, HU.out⟩
open Classical in
set_option maxRecDepth 100000 in
set_option maxHeartbeats 1000000 in
theorem fit_walk (s : ByteArray) (hs : s.size ≤ 140737488355328) (w : World) : Calls Tryz.prog 41 #[.string s] w fun e w' => e = .returned (.bool (decide (okT s))) ∧ w' = w := by
  go_enter Tryz.func41, Tryz.ntmps41
  by_cases h0 : s.size = 0
  · obtain rfl := szero h0
    go_wp2
    go_ret
    exact ⟨by rw [decide_eq_false (fun h => by have := h.1; cases this)]; rfl, rfl⟩
  have h0' := eno h0
  have hw : IntKind.i64.wrap ((s.size : Int) - 1) = ((s.size - 1 : Nat) : Int) := by
    simp only [IntKind.wrap, IntKind.signed, IntKind.bits]; simp; omega
  have HL := Hid.of (last_get s (by omega))
  by_cases hx : ((s[s.size - 1]'(by omega)).toNat : Int) = 10
  rotate_left
  · have HX := Hid.of (show ¬ okT s from fun h => hx (HL.out.1 h.1))
    go_wp2
    go_ret
    exact ⟨by rw [decide_eq_false HX.out]; rfl, rfl⟩
  have HX := Hid.of (HL.out.2 hx)
  go_wp2_with fail
  refine (RPlain_walk s w).mono ?_
  rintro e w1 ⟨rfl, hw1⟩
  obtain rfl := hw1.symm
  have HP := Hid.of (show plainR s = plainR s from rfl)
  generalize hp : plainR s = p at HP ⊢
  clear HP
  have HP := Hid.of hp
  clear hp
  dsimp only
  by_cases h : p = 0
  · subst h
    go_wp2
    go_ret
    exact ⟨by rw [decide_eq_true (show okT s from ⟨HX.out, HP.out⟩)]; rfl, rfl⟩
  · have h' : (p == 0) = false := by simpa using h
    go_wp2
    go_ret
    exact ⟨by rw [decide_eq_false (fun hk : okT s => h (by rw [← HP.out]; exact hk.2))]; rfl, rfl⟩
end Go.Proofs.YtaobnnlcfefodaaGreatDoor
namespace Go.Proofs.YtaobnnlcfefodaaGreatDoor
open Go.RowKit TextNum
theorem sumL_take : ∀ (ss : List Sg) (i : Nat) (h : i < ss.length), sumL (ss.take (i + 1)) = sumL (ss.take i) + sgLen ss[i]
  | s :: r, 0, _ => by simp [sumL]
  | s :: r, i + 1, h => by
    have := sumL_take r i (by simpa using h)
    simp only [List.take_succ_cons, sumL, List.getElem_cons_succ]
    omega
def Bds (ss : List Sg) : Prop := ∀ s, s ∈ ss → s.name.size ≤ 140737488355328 ∧ s.bytes.length ≤ 140737488355328
theorem sgLen_bd {s : Sg} (h : s.name.size ≤ 140737488355328 ∧ s.bytes.length ≤ 140737488355328) : sgLen s ≤ 562949953421312 := by unfold sgLen; omega
theorem sumL_bd : ∀ (ss : List Sg), Bds ss → sumL ss ≤ ss.length * 562949953421312
  | [], _ => by simp [sumL]
  | s :: r, h => by
    have h1 := sumL_bd r (fun x hx => h x (by simp [hx]))
    have h2 := sgLen_bd (h s (by simp))
    simp only [sumL, List.length_cons]
    omega
theorem w64 {x : Int} (h : -9223372036854775808 ≤ x ∧ x < 9223372036854775808) : wrap64 x = x := by
  unfold wrap64
  omega
def fmtP (t : List UInt8) (ss : List Sg) (i : Nat) : List UInt8 := t ++ 10 :: joinL ((ss.take i).map sigB)
theorem joinL_app7 : ∀ (a b : List (List UInt8)), joinL (a ++ b) = joinL a ++ joinL b
  | [], b => by simp [joinL]
  | x :: a, b => by rw [List.cons_append, joinL_cons, joinL_cons, joinL_app7 a b]; simp
theorem fmtP_succ (t : List UInt8) (ss : List Sg) (i : Nat) (h : i < ss.length) : fmtP t ss (i + 1) = fmtP t ss i ++ (sigB ss[i] ++ [10]) := by
  unfold fmtP
  rw [List.take_succ_eq_append_getElem h, List.map_append, joinL_app7]
  simp [joinL]
theorem sumL_take_le (ss : List Sg) (i : Nat) : sumL (ss.take i) ≤ sumL ss := by
  induction ss generalizing i with
  | nil => simp [sumL]
  | cons s r ih =>
    cases i with
    | zero => simp [sumL]
    | succ i => have := ih i; simp only [List.take_succ_cons, sumL]; omega
theorem fmtP_len (t : ByteArray) (ss : List Sg) (i : Nat) : (fmtP t.data.toList ss i).length ≤ nlen t ss := by
  unfold fmtP nlen
  have := sumL_take_le ss i
  rw [List.length_append, List.length_cons, joinL_len, ← Go.Lib.size_eq]
  omega
def Hsh (ss : List Sg) : Prop := ∀ s, s ∈ ss → s.hash < 4294967296
def FA (t : ByteArray) (ss : List Sg) (w : World) (e : Ending) (w' : World) : Prop := ∃ v er, e = .returned (.tuple #[v, .int .i64 er]) ∧ FR t ss er ∧ (er = 0 → Sl w' v (fmtN t.data.toList ss)) ∧ (er ≠ 0 → v = .slice none 0 0) ∧ Up w w'
def FB (t : ByteArray) (ss : List Sg) (w : World) (e : Ending) (w' : World) : Prop := ∃ v er, e = .returned (.tuple #[v, .int .i64 er]) ∧ FR t ss er ∧ (er = 0 → OwnM w' w.heap.size v (fmtN t.data.toList ss)) ∧ (er ≠ 0 → v = .slice none 0 0) ∧ Up w w'
theorem FB.fa {t : ByteArray} {ss : List Sg} {w : World} {e : Ending} {w' : World} (h : FB t ss w e w') : FA t ss w e w' := by
  obtain ⟨v, er, h1, h2, h3, h4, h5⟩ := h
  exact ⟨v, er, h1, h2, fun h => (h3 h).sl, h4, h5⟩
open Classical in
theorem BTab_up {w w' : World} (h : BTab w) (u : Up w w') : BTab w' := fun k hk => u.cell (h k hk)
theorem nl_step2 (T S n b : Nat) (hT : T ≤ 140737488355328) (hS : S ≤ 9007199254740992) (hn : n ≤ 140737488355328) (hb : b ≤ 140737488355328) :
    wrap64 (wrap64 (wrap64 (wrap64 (wrap64 (wrap64 ((T : Int) + 1 + (S : Int) + 3) + 1) + (n : Int)) + 1) + wrap64 (wrap64 ((wrap64 (wrap64 ((b : Int) + 4) + 2)).tdiv 3) * 4)) + 1) = ((T + 1 + (S + (4 + n + 1 + (4 + b + 2) / 3 * 4 + 1)) : Nat) : Int) := by
  have e : ((b : Int) + 4 + 2).tdiv 3 = (((4 + b + 2) / 3 : Nat) : Int) := by
    rw [show ((b : Int) + 4 + 2) = ((4 + b + 2 : Nat) : Int) by omega]; rfl
  rw [w64 (x := (T : Int) + 1 + (S : Int) + 3) (by omega), w64 (x := (T : Int) + 1 + (S : Int) + 3 + 1) (by omega), w64 (x := (T : Int) + 1 + (S : Int) + 3 + 1 + (n : Int)) (by omega), w64 (x := (T : Int) + 1 + (S : Int) + 3 + 1 + (n : Int) + 1) (by omega),
    w64 (x := (b : Int) + 4) (by omega), w64 (x := (b : Int) + 4 + 2) (by omega), e]
  rw [w64 (x := (((4 + b + 2) / 3 : Nat) : Int)) (by omega), w64 (x := (((4 + b + 2) / 3 : Nat) : Int) * 4) (by omega)]
  rw [w64 (x := (T : Int) + 1 + (S : Int) + 3 + 1 + (n : Int) + 1 + (((4 + b + 2) / 3 : Nat) : Int) * 4) (by omega), w64 (by omega)]
  omega
open Classical in
set_option maxRecDepth 100000 in
set_option maxHeartbeats 4000000 in
theorem RFmtN_walkM (t : ByteArray) (ht : t.size ≤ 140737488355328) (v : Value) (ss : List Sg) (w : World) (hS : SigL w v ss) (hb : Bds ss) (hh : Hsh ss) (hT : BTab w) :
    Calls Tryz.prog 31 #[.string t, v] w (FB t ss w) := by
  obtain ⟨a, c, rfl, hc, hg⟩ := hS.get
  have HG := Hid.of hg
  have HB := Hid.of hb
  have HH := Hid.of hh
  have HT := Hid.of hT
  clear hS hg hb hh hT
  obtain ⟨n, hn⟩ : ∃ n, ss.length = n := ⟨_, rfl⟩
  rw [hn] at hc ⊢
  go_enter Tryz.func31, Tryz.ntmps31
  by_cases hts : 65536 < t.size
  · have hts' : (65536 : Int) < (t.size : Int) := by omega
    go_wp2
    go_ret2
    exact ⟨_, _, rfl, .inl ⟨rfl, .inr (by unfold nlen; omega)⟩, fun h => absurd h (by decide), fun _ => rfl, Up.refl _⟩
  have hts' : ¬ (65536 : Int) < (t.size : Int) := by omega
  by_cases h16 : 16 < n
  · have h16' : (16 : Int) < (n : Int) := by omega
    go_wp2
    go_ret2
    exact ⟨_, _, rfl, .inl ⟨rfl, .inl (by omega)⟩, fun h => absurd h (by decide), fun _ => rfl, Up.refl _⟩
  have h16' : ¬ (16 : Int) < (n : Int) := by omega
  go_wp2
  go_loopw [6, 7] (fun v6 v7 wr => ∃ i : Nat, v7 = .int .i64 (i : Int) ∧ v6 = .int .i64 ((t.size + 1 + sumL (ss.take i) : Nat) : Int) ∧ i ≤ n ∧ Hid (Up w wr)) (fun _ v7 _ => n - (intOf v7).toNat)
  case atStart => exact ⟨0, rfl, by simp [sumL], by omega, Up.refl _⟩
  case round =>
    obtain ⟨i, rfl, rfl, hi, hI⟩ := hrel
    by_cases hlt : i < n
    · have hlt' : (i : Int) < (n : Int) := by omega
      have hltS : i < ss.length := by omega
      obtain ⟨b, off, rfl, a2, n2, c2, k1, k2, k3, rfl, k5⟩ := HG.out i hltS
      have k1' := hI.out.cell k1
      have k3' := hI.out.cell k3
      clear k1 k2 k3 k5
      have HX := Hid.of (sumL_take ss i hltS)
      have HM := Hid.of (HB.out _ (List.getElem_mem hltS))
      have hs := sumL_bd (ss.take i) (fun x hx => HB.out x (List.mem_of_mem_take hx))
      rw [List.length_take] at hs
      have HSm := Hid.of (show sumL (ss.take i) ≤ 9007199254740992 by omega)
      clear hs
      generalize ss[i] = s at *
      generalize sumL (ss.take i) = T at *
      go_wp2_with fail
      go_quiet (fail)
      go_wp2
      refine ⟨⟨i + 1, by go_num, ?_, by omega, hI.out.drewN _⟩, by simp [intOf]; omega⟩
      rw [nl_step2 t.size T s.name.size s.bytes.length ht HSm.out HM.out.1 HM.out.2, HX.out]
      rfl
    · have hlt' : ¬ (i : Int) < (n : Int) := by omega
      have hin : i = ss.length := by omega
      have HN := Hid.of (show t.size + 1 + sumL (ss.take i) = nlen t ss by rw [hin, List.take_length]; rfl)
      generalize ht1 : t.size + 1 + sumL (ss.take i) = N at HN ⊢
      by_cases hL : 65536 < N
      · have hL' : (65536 : Int) < (N : Int) := by omega
        clear ht1
        go_wp2
        go_ret2
        exact ⟨_, _, rfl, .inl ⟨rfl, .inr (by rw [← HN.out]; exact hL)⟩, fun h => absurd h (by decide), fun _ => rfl, hI.out⟩
      have hL' : ¬ (65536 : Int) < (N : Int) := by omega
      have HLg := Hid.of (show ¬ Lng t ss by unfold Lng; rw [← HN.out]; omega)
      clear ht1
      go_wp2_with fail
      refine (fit_walk t ht wr).mono ?_
      rintro e w1 ⟨rfl, hw1⟩
      obtain rfl := hw1.symm
      by_cases hk : okT t
      rotate_left
      · rw [decide_eq_false hk]
        have HK := Hid.of hk
        clear hk
        dsimp only
        go_wp2
        go_ret2
        exact ⟨_, _, rfl, .inr (.inl ⟨rfl, HLg.out, fun h => HK.out h.1⟩), fun h => absurd h (by decide), fun _ => rfl, hI.out⟩
      rw [decide_eq_true hk]
      have HK := Hid.of hk
      clear hk
      dsimp only
      by_cases h0 : n = 0
      · have h0' : ((n : Int) == 0) = true := by simpa using h0
        go_wp2
        go_ret2
        exact ⟨_, _, rfl, .inr (.inl ⟨rfl, HLg.out, fun h => h.2.1 (List.length_eq_zero_iff.1 (by omega))⟩), fun h => absurd h (by decide), fun _ => rfl, hI.out⟩
      have h0' : ((n : Int) == 0) = false := by simpa using h0
      have hst : t ++ (⟨#[10]⟩ : ByteArray) = ⟨(fmtP t.data.toList ss 0).toArray⟩ := by
        refine ba_list7 ?_
        simp [fmtP, joinL, ByteArray.data_append]
      have hsz1 : (⟨#[10]⟩ : ByteArray).size = 1 := rfl
      have HPL := Hid.of (fun i => fmtP_len t ss i)
      have HN2 := Hid.of (show nlen t ss ≤ 65536 by rw [← HN.out]; omega)
      clear hin
      go_wp2
      clear hst
      go_loopw [8, 9] (fun v8 v9 wr => ∃ i : Nat, v9 = .int .i64 (i : Int) ∧ v8 = .string ⟨(fmtP t.data.toList ss i).toArray⟩ ∧ i ≤ n ∧ Hid (Up w wr ∧ ∀ s, s ∈ ss.take i → okS s)) (fun _ v9 _ => n - (intOf v9).toNat)
      case atStart => exact ⟨0, rfl, rfl, by omega, hI.out, by simp⟩
      case round =>
        clear hlt hlt' hi
        obtain ⟨i, rfl, rfl, hi, hI⟩ := hrel
        by_cases hlt : i < n
        · have hlt' : (i : Int) < (n : Int) := by omega
          have hltS : i < ss.length := by omega
          obtain ⟨b, off, rfl, a2, n2, c2, k1, k2, k3, rfl, k5⟩ := HG.out i hltS
          have k1' := hI.out.1.cell k1
          have k2' := hI.out.1.cell k2
          have k3' := hI.out.1.cell k3
          have HSl := Hid.of (k5.up hI.out.1)
          clear k1 k2 k3 k5
          have HM := Hid.of (List.getElem_mem hltS)
          have HX := Hid.of (fmtP_succ t.data.toList ss i hltS)
          have HTk := Hid.of (List.take_succ_eq_append_getElem hltS)
          generalize ss[i] = s at *
          have HZ := Hid.of (sgLen_le HM.out)
          go_wp2_with fail
          refine (RCheckName_walk s.name _ (BTab_up HT.out hI.out.1)).mono ?_
          rintro e w2 ⟨rfl, hw2⟩
          obtain rfl := hw2.symm
          rcases name_val s.name with hnm | hnm
          rotate_left
          · have HF := Hid.of (show ¬ Fine t ss from fun h => by have := (h.2.2 s HM.out).1; rw [hnm] at this; cases this)
            rw [hnm]
            clear hnm
            dsimp only
            go_wp2
            go_ret2
            exact ⟨_, _, rfl, .inr (.inl ⟨rfl, HLg.out, HF.out⟩), fun h => absurd h (by decide), fun _ => rfl, hI.out.1⟩
          rw [hnm]
          dsimp only
          by_cases hbl : s.bytes.length = 0
          · have hbl' : ((s.bytes.length : Int) == 0) = true := by simpa using hbl
            have HF := Hid.of (show ¬ Fine t ss from fun h => (h.2.2 s HM.out).2 (List.length_eq_zero_iff.1 hbl))
            go_wp2
            go_ret2
            exact ⟨_, _, rfl, .inr (.inl ⟨rfl, HLg.out, HF.out⟩), fun h => absurd h (by decide), fun _ => rfl, hI.out.1⟩
          have hbl' : ((s.bytes.length : Int) == 0) = false := by simpa using hbl
          have HOK := Hid.of (show okS s from ⟨hnm, fun e => hbl (by rw [e]; rfl)⟩)
          clear hnm
          go_wp2_with fail
          refine (line_walk s a2 c2 _ HSl.out (by have := HZ.out; have := HN2.out; unfold sgLen at *; unfold nlen at *; omega) (by have := HZ.out; have := HN2.out; unfold sgLen at *; unfold nlen at *; omega) (HH.out s HM.out)).mono ?_
          rintro e w3 ⟨rfl, u3⟩
          rw [show vs (sigB s ++ [10]) = .string ⟨(sigB s ++ [10]).toArray⟩ from rfl]
          have hadd : (⟨(fmtP t.data.toList ss i).toArray⟩ : ByteArray) ++ (⟨(sigB s ++ [10]).toArray⟩ : ByteArray) = ⟨(fmtP t.data.toList ss (i + 1)).toArray⟩ := by
            refine ba_list7 ?_
            rw [HX.out]
            simp [ByteArray.data_append]
          have hsz : (⟨(fmtP t.data.toList ss i).toArray⟩ : ByteArray).size + (⟨(sigB s ++ [10]).toArray⟩ : ByteArray).size ≤ 65536 := by
            have h1 := HPL.out (i + 1)
            rw [HX.out, List.length_append] at h1
            rw [Go.Lib.size_eq, Go.Lib.size_eq]
            have := HN2.out
            simp only at h1 ⊢
            omega
          have HNx := Hid.of (show Up w w3 ∧ ∀ s, s ∈ ss.take (i + 1) → okS s from ⟨hI.out.1.trans u3, fun x hx => by
            rw [HTk.out, List.mem_append, List.mem_singleton] at hx
            rcases hx with hx | rfl
            · exact hI.out.2 x hx
            · exact HOK.out⟩)
          clear u3 HSl k1' k2' k3' HX HTk HPL
          generalize (⟨(fmtP t.data.toList ss i).toArray⟩ : ByteArray) = q1 at *
          generalize (⟨(sigB s ++ [10]).toArray⟩ : ByteArray) = q2 at *
          generalize hq3 : (⟨(fmtP t.data.toList ss (i + 1)).toArray⟩ : ByteArray) = q3 at *
          dsimp only
          go_wp2
          refine ⟨⟨i + 1, by go_num, by rw [← hq3], by omega, HNx.out⟩, by simp [intOf]; omega⟩
        · have hlt' : ¬ (i : Int) < (n : Int) := by omega
          have hin : i = ss.length := by omega
          have HFN := Hid.of (show fmtP t.data.toList ss i = fmtN t.data.toList ss by unfold fmtP fmtN; rw [hin, List.take_length])
          have HFi := Hid.of (show Fine t ss from ⟨HK.out, fun e => h0 (by rw [← hn, e]; rfl), fun s hs => hI.out.2 s (by rw [hin, List.take_length]; exact hs)⟩)
          have HLn := Hid.of (show (⟨(fmtP t.data.toList ss i).toArray⟩ : ByteArray).size ≤ 140737488355328 by rw [Go.Lib.size_eq]; have h1 := HPL.out i; have h2 := HN2.out; simp only; omega)
          clear hin
          go_wp2_with (with_reducible show wpList _ _ _ ({ dst := _, op := Op.convert 9 23 _, type := _, pos := _, after := _, guard := _ } :: _) _ _; refine Shut.out ?_)
          show wpList _ _ _ _ _ _
          refine wpList_conv rfl _ rfl _ HLn.out rfl ?_
          intro v4 w4 hO4 u4
          simp only [Act.put, List.setIfInBounds_toArray, List.set_cons_zero, List.set_cons_succ]
          have H4 := Hid.of (show OwnM w4 w.heap.size v4 (fmtN t.data.toList ss) ∧ Up w w4 from ⟨by rw [← HFN.out]; exact hO4.base hI.out.1.size, hI.out.1.trans u4⟩)
          clear hO4 u4
          go_wp2
          go_ret2
          exact ⟨_, _, rfl, .inr (.inr ⟨rfl, HLg.out, HFi.out⟩), fun _ => by exact H4.out.1, fun h => absurd rfl h, H4.out.2⟩
theorem RFmtN_walk (t : ByteArray) (ht : t.size ≤ 140737488355328) (v : Value) (ss : List Sg) (w : World) (hS : SigL w v ss) (hb : Bds ss) (hh : Hsh ss) (hT : BTab w) :
    Calls Tryz.prog 31 #[.string t, v] w (FA t ss w) := (RFmtN_walkM t ht v ss w hS hb hh hT).mono fun _ _ h => h.fa
end Go.Proofs.YtaobnnlcfefodaaGreatDoor
namespace Go.Proofs.YtaobnnlcfefodaaGreatDoor
open Go.RowKit TextNum
/-- what loose reading asks of a line's signature -/
def Lo (l : List UInt8) (s : Sg) : Prop := (s.hash < 4294967296 ∧ s.name.size ≤ l.length ∧ s.bytes.length ≤ l.length) ∧ ∀ x : Sg, okS x → x.hash < 4294967296 → sgLen x ≤ 65536 → l = sigB x → s = x
/-- no blank from k to e -/
def Nb (l : List UInt8) (k e : Nat) : Prop := ∀ j, k ≤ j → j < e → l[j]? ≠ some 32
theorem sigB_at {x : Sg} (hx : okS x) : (∀ j, j < 3 → (sigB x)[j]? ≠ some 32) ∧ (sigB x)[3]? = some 32 ∧ (∀ j, 4 ≤ j → j < 4 + x.name.size → (sigB x)[j]? ≠ some 32) ∧ (sigB x)[4 + x.name.size]? = some 32 ∧ 4 + x.name.size + 1 < (sigB x).length := by
  have e : sigB x = MK ++ (x.name.data.toList ++ 32 :: b64E (hb4 x.hash ++ x.bytes)) := by simp [sigB]
  have hb := List.length_pos_iff.2 hx.2
  have hsz := Go.Lib.size_eq x.name
  refine ⟨fun j hj => ?_, ?_, fun j h1 h2 => ?_, ?_, ?_⟩
  · rw [e]
    match j, hj with
    | 0, _ | 1, _ | 2, _ => simp [MK]
  · rw [e]; simp [MK]
  · rw [e, List.getElem?_append_right (by simpa [MK] using h1), show MK.length = 4 from rfl, List.getElem?_append_left (by omega)]
    intro h
    exact name_byte hx.1 (c := 32) (by decide) (List.mem_of_getElem? h)
  · rw [e, List.getElem?_append_right (by simp [MK]), show MK.length = 4 from rfl, List.getElem?_append_right (by omega), show 4 + x.name.size - 4 - x.name.data.toList.length = 0 by omega]
    rfl
  · rw [e]
    simp only [List.length_append, List.length_cons, b64E_length, show MK.length = 4 from rfl, hb4, List.length_nil]
    omega
theorem nb_eq {l : List UInt8} {k e e' : Nat} (h : Nb l k e) (h' : Nb l k e') (hk : k ≤ e) (hk' : k ≤ e') (he : e < l.length → l[e]? = some 32) (he' : e' < l.length → l[e']? = some 32) (hl : e ≤ l.length) (hl' : e' ≤ l.length) : e = e' := by
  rcases Nat.lt_trichotomy e e' with hlt | h0 | hlt
  · exact absurd (he (by omega)) (h' e hk hlt)
  · exact h0
  · exact absurd (he' (by omega)) (h e' hk' hlt)
theorem lo_at {l : List UInt8} {a e : Nat} (h1 : Nb l 0 a) (ha : a ≤ l.length) (h2 : a < l.length → l[a]? = some 32) (h3 : Nb l (a + 1) e) (hae : a + 1 ≤ e) (h4 : e < l.length → l[e]? = some 32) (he : e ≤ l.length ∨ e = a + 1) {x : Sg} (hx : okS x) (hl : l = sigB x) : a = 3 ∧ e = 4 + x.name.size := by
  obtain ⟨b1, b2, b3, b4, b5⟩ := sigB_at hx
  rw [← hl] at b1 b2 b3 b4 b5
  have e1 : a = 3 := nb_eq h1 (fun j _ hj => b1 j hj) (Nat.zero_le _) (Nat.zero_le _) h2 (fun _ => b2) ha (by omega)
  subst e1
  exact ⟨rfl, nb_eq h3 (fun j hj hj2 => b3 j hj hj2) hae (by omega) h4 (fun _ => b4) (by omega) (by omega)⟩
theorem lo_parts {x : Sg} (hs : sgLen x ≤ 65536) : ((sigB x).drop 4).take x.name.size = x.name.data.toList ∧ b64R ((sigB x).drop (4 + x.name.size + 1)) = (hb4 x.hash ++ x.bytes, 0) := by
  have e : sigB x = MK ++ (x.name.data.toList ++ 32 :: b64E (hb4 x.hash ++ x.bytes)) := by simp [sigB]
  have hsz := Go.Lib.size_eq x.name
  have e4 : (sigB x).drop 4 = x.name.data.toList ++ 32 :: b64E (hb4 x.hash ++ x.bytes) := by rw [e]; rfl
  constructor
  · rw [e4, hsz, List.take_left' rfl]
  · rw [show 4 + x.name.size + 1 = 4 + (x.name.size + 1) by omega, ← List.drop_drop, e4, hsz, ← List.drop_drop, List.drop_left' rfl, List.drop_succ_cons, List.drop_zero]
    refine b64R_back _ ?_
    rw [b64E_length, List.length_append]
    simp only [hb4, List.length_cons, List.length_nil]
    unfold sgLen at hs
    omega
theorem lo_zero {l : List UInt8} {a e : Nat} (h1 : Nb l 0 a) (ha : a ≤ l.length) (h2 : a < l.length → l[a]? = some 32) (h3 : Nb l (a + 1) e) (hae : a + 1 ≤ e) (h4 : e < l.length → l[e]? = some 32) (he : e = l.length ∨ (e = a + 1 ∧ l.length ≤ e)) : Lo l ⟨⟨#[]⟩, 0, []⟩ := by
  refine ⟨⟨by decide, Nat.zero_le _, Nat.zero_le _⟩, fun x hx _ _ hl => ?_⟩
  obtain ⟨rfl, rfl⟩ := lo_at h1 ha h2 h3 hae h4 (by omega) hx hl
  have := (sigB_at hx).2.2.2.2
  rw [← hl] at this
  omega
theorem b64R_len (l : List UInt8) : (b64R l).1.length ≤ l.length := by
  unfold b64R
  split
  · exact Nat.zero_le _
  · cases hd : b64D l with
    | none => exact Nat.zero_le _
    | some x =>
      have h := congrArg List.length (b64_once l x hd)
      rw [b64E_length] at h
      show x.length ≤ l.length
      omega
theorem four4 : ∀ {l : List UInt8}, 4 ≤ l.length → ∃ x0 x1 x2 x3 r4, l = x0 :: x1 :: x2 :: x3 :: r4
  | x0 :: x1 :: x2 :: x3 :: r4, _ => ⟨x0, x1, x2, x3, r4, rfl⟩
theorem w32 {x : Int} (h : 0 ≤ x ∧ x < 4294967296) : IntKind.u32.wrap x = x := by
  simp only [IntKind.wrap, IntKind.signed, IntKind.bits]
  simp
  omega
theorem Sl.setC {w : World} {v : Value} {l : List UInt8} {b o : Nat} {vs : List Value} (h : Sl w v l) (hne : ∀ b', v.ownBlock = some b' → b' ≠ b) : Sl (w.setCells b o vs) v l := by
  obtain ⟨a, c, rfl, hc, h⟩ := h
  refine ⟨a, c, rfl, hc, ?_⟩
  rcases h with h | ⟨b', off, rfl, hb, h⟩
  · exact .inl h
  · exact .inr ⟨b', off, rfl, by rw [setCells_size]; exact hb, fun i hi => (World.cell?_setCells_out _ _ _ _ _ (fun e => absurd e (hne b' rfl))).trans (h i hi)⟩
theorem setC_eq (w : World) (b o : Nat) (v : Value) : (w.setCell ⟨b, o, none⟩ v).drew = w.drew.setCells b o [v] := rfl
theorem setC_eq0 (w : World) (b o : Nat) (v : Value) : w.setCell ⟨b, o, none⟩ v = w.setCells b o [v] := rfl
theorem nb_succ {l : List UInt8} {k i : Nat} (h : Nb l k i) (hi : l[i]? ≠ some 32) : Nb l k (i + 1) := fun j hj hj2 => by
  rcases Nat.lt_or_ge j i with h' | h'
  · exact h j hj h'
  · obtain rfl : j = i := by omega
    exact hi
end Go.Proofs.YtaobnnlcfefodaaGreatDoor
namespace Go.Proofs.YtaobnnlcfefodaaGreatDoor
open Go.RowKit TextNum
theorem wp_appSl {o : Oper} {a : Act} {w : World} {K : Act → World → Prop} {Q : Exit → Act → World → Prop} (s x : Operand)
    (ho : o.op = .call { callee := .builtin .append, args := #[s, x], argTypes := #[23, 23] }) (B : Nat) (v vx : Value) (l m : List UInt8) (hs : a.eval s = v) (hown : Own w B v l)
    (hx : a.eval x = vx) (hm : Sl w vx m) (hn : l.length + m.length ≤ 140737488355328) (hB : B ≤ w.heap.size)
    (h : ∀ v' w', Own w' B v' (l ++ m) → Below B w w' → K (a.put o.dst v') w') : Oper.wp Tryz.prog o a w K Q := by
  obtain ⟨ad, c, rfl, hc, hm⟩ := hm
  cases ad with
  | some ad =>
    obtain ⟨i0, hi, hz0, hz1, hz2⟩ := info_parts Tryz.info8
    refine wp_append_own _ s x 23 ho B 5 i0 (.int .u8 0) 1 1 Tryz.underlying23 hi hz0 hz1 hz2 rfl (by decide) v l.length (cb l) hs hown ad m.length c (cb m) hx (by simp [cb]) ?_ (cb_one m) (by unfold maxLen; omega) (by omega) hB ?_
    · rcases hm with rfl | ⟨b, off, e, hb, hcell⟩
      · intro j u hj; simp [cb] at hj
      · cases e
        intro j u hj
        have hjl : j < m.length := by have := (List.getElem?_eq_some_iff.1 hj).1; rwa [cb_length] at this
        rw [cb_get hjl] at hj
        rw [add_plain, hcell j hjl]; exact hj
    · intro v' w' h1 h2 _
      refine h v' w' ?_ ((Below.refl B w).grown h2 hB (fun k hk => (World.ownsRow.lt hown k hk).1))
      unfold Own
      rw [List.length_append, cb_append]
      exact h1
  | none =>
    rcases hm with rfl | ⟨b, off, e, _⟩
    · have hr := run_app_none (ty := o.type) (c := c) hown
      unfold Oper.wp execOp
      simp only [List.length_nil] at hx
      simp only [ho, resolve, invoke, builtin, Sem.run_bind, Sem.run_pure, Result.andThen_ok, List.map_toArray, List.map_cons, List.map_nil, hs, hx, hr]
      exact h v w (by rw [List.append_nil]; exact hown) (Below.refl _ _)
    · cases e
/-- what loose answers -/
def LA (l : List UInt8) (w : World) (e : Ending) (w' : World) : Prop :=
  ∃ x a c, e = .returned (.agg #[.string x.name, .int .u32 (x.hash : Int), .slice a x.bytes.length c]) ∧ Lo l x ∧ Sl w' (.slice a x.bytes.length c) x.bytes ∧ (∀ b, (Value.slice a x.bytes.length c).ownBlock = some b → w.heap.size ≤ b ∧ b < w'.heap.size) ∧ Up w w'
theorem result_cell1 {P : Program} {fn : Func} {q : Tmp} {T : TypeId} (h : fn.results = #[.cell q T]) (tmps : Array Value) (w : World) (b : Nat) (cs : List Value) {d : TypeDesc}
    (hp : tmps.getD q undef = .pointer (some ⟨b, 0, none⟩)) (hc : w.rangeAt b 0 cs) (hu : P.underlying T = some d) (hd : d.isRow = true) (hi : (P.info? T).map (·.size) = some cs.length) : (results fn tmps).run P w = .ok (.agg cs.toArray) w := by
  have hp' : tmps[q]?.getD undef = .pointer (some ⟨b, 0, none⟩) := by simpa using hp
  simp [results, h, hp', asAddr, run_loadVar_mid w b 0 T cs _ hc hu hd hi]
theorem infoR : (Tryz.prog.info? 71).map (·.size) = some 3 := by kernel_rfl
theorem sget32 (s : ByteArray) (i : Nat) (h : i < s.size) : (s.data.toList[i]? = some 32) ↔ ((s[i].toNat : Int) = 32) := by
  rw [sget' s i h, List.getElem?_eq_getElem (by rw [← Go.Lib.size_eq]; exact h), Option.some.injEq]
  constructor
  · intro h; rw [h]; rfl
  · intro h; apply UInt8.toNat_inj.1; have : (32 : UInt8).toNat = 32 := rfl; omega
set_option maxRecDepth 100000 in
set_option maxHeartbeats 4000000 in
theorem loose_walk (s : ByteArray) (hs : s.size ≤ 1048576) (w : World) :
    Calls Tryz.prog 30 #[.string s] w (LA s.data.toList w) := by
  have HZ := Hid.of (Go.Lib.size_eq s)
  have HG := Hid.of (fun i h => sget32 s i h)
  go_enter Tryz.func30, Tryz.ntmps30
  go_wp2
  have hu0 := ((Up.refl w).alloc (Obj.cells #[.string ⟨#[]⟩, .int .u32 0, .slice none 0 0] 71)).alloc (Obj.cells #[.string ⟨#[]⟩, .int .u32 0, .slice none 0 0] 71)
  go_loopw [4] (fun v4 wr => ∃ i : Nat, v4 = .int .i64 (i : Int) ∧ i ≤ s.size ∧ Hid (Nb s.data.toList 0 i) ∧ wr = (w.alloc (Obj.cells #[.string ⟨#[]⟩, .int .u32 0, .slice none 0 0] 71)).alloc (Obj.cells #[.string ⟨#[]⟩, .int .u32 0, .slice none 0 0] 71)) (fun v4 _ => s.size - (intOf v4).toNat)
  case atStart => exact ⟨0, rfl, by omega, fun j _ h => absurd h (Nat.not_lt_zero _), rfl⟩
  case round =>
    obtain ⟨i, rfl, hi, hI, rfl⟩ := hrel
    by_cases hlt : i < s.size
    rotate_left
    · have hlt' : ¬ (i : Int) < (s.size : Int) := by omega
      have HL := Hid.of (show Lo s.data.toList ⟨⟨#[]⟩, 0, []⟩ from lo_zero hI.out (by have := HZ.out; omega) (fun h => by have := HZ.out; omega) (e := i + 1) (fun j h1 h2 => by omega) (Nat.le_refl _) (fun h => by have := HZ.out; omega) (.inr ⟨rfl, by have := HZ.out; omega⟩))
      obtain rfl : i = s.size := by omega
      have hw1 : IntKind.i64.wrap ((s.size : Int) + 1) = (s.size : Int) + 1 := by simp only [IntKind.wrap, IntKind.signed, IntKind.bits]; simp; omega
      have hlt2 : ¬ (s.size : Int) + 1 < (s.size : Int) := by omega
      have hge2 : (s.size : Int) ≤ (s.size : Int) + 1 := by omega
      go_wp2
      go_loopw [5] (fun v5 wr => v5 = .int .i64 ((s.size : Int) + 1) ∧ wr = (w.alloc (Obj.cells #[.string ⟨#[]⟩, .int .u32 0, .slice none 0 0] 71)).alloc (Obj.cells #[.string ⟨#[]⟩, .int .u32 0, .slice none 0 0] 71)) (fun _ _ => 0)
      case atStart => exact ⟨rfl, rfl⟩
      case round =>
        obtain ⟨rfl, rfl⟩ := hrel
        go_wp2
        refine bodyPost_ret (result_cell1 Tryz.results30 _ _ w.heap.size zs rfl (fun k v hv => ?_) Tryz.underlying71 rfl infoR) rfl ?_
        · have h1 : (w.alloc (Obj.cells #[.string ⟨#[]⟩, .int .u32 0, .slice none 0 0] 71)).cell? ⟨w.heap.size, 0 + k, none⟩ = some v := by rw [World.cell?_alloc_at _ _ _ _ rfl, Nat.zero_add]; simpa [zs] using hv
          exact ((Up.refl _).alloc _).cell h1
        · exact ⟨⟨⟨#[]⟩, 0, []⟩, none, 0, rfl, HL.out, ⟨none, 0, rfl, Nat.le_refl _, .inl rfl⟩, fun b hb => (by cases hb), hu0⟩
    have hlt' : (i : Int) < (s.size : Int) := by omega
    by_cases hb : ((s[i]'hlt).toNat : Int) = 32
    rotate_left
    · have HN := Hid.of (nb_succ hI.out (fun h => hb ((HG.out i hlt).1 h)))
      go_wp2
      go_roundw
      case rel => exact ⟨i + 1, by go_num, by omega, HN.out, by simp⟩
      case measure => simp [intOf]; omega
    have HA := Hid.of (And.intro hI.out ((HG.out i hlt).2 hb))
    have hw1 : IntKind.i64.wrap ((i : Int) + 1) = ((i + 1 : Nat) : Int) := by simp only [IntKind.wrap, IntKind.signed, IntKind.bits]; simp; omega
    go_wp2
    clear hb
    go_loopw [5] (fun v5 wr => ∃ j : Nat, v5 = .int .i64 (j : Int) ∧ i + 1 ≤ j ∧ j ≤ s.size ∧ Hid (Nb s.data.toList (i + 1) j) ∧ wr = (w.alloc (Obj.cells #[.string ⟨#[]⟩, .int .u32 0, .slice none 0 0] 71)).alloc (Obj.cells #[.string ⟨#[]⟩, .int .u32 0, .slice none 0 0] 71)) (fun v5 _ => s.size - (intOf v5).toNat)
    case atStart => exact ⟨i + 1, by go_num, by omega, by omega, fun j h1 h2 => by omega, rfl⟩
    case round =>
      obtain ⟨j, rfl, hij, hj, hJ, rfl⟩ := hrel
      by_cases hjl : j < s.size
      rotate_left
      · have hjl' : ¬ (j : Int) < (s.size : Int) := by omega
        have hjg : (s.size : Int) ≤ (j : Int) := by omega
        have HL := Hid.of (show Lo s.data.toList ⟨⟨#[]⟩, 0, []⟩ from lo_zero HA.out.1 (by have := HZ.out; omega) (fun _ => HA.out.2) hJ.out hij (fun h => by have := HZ.out; omega) (.inl (by have := HZ.out; omega)))
        go_wp2
        refine bodyPost_ret (result_cell1 Tryz.results30 _ _ w.heap.size zs rfl (fun k v hv => ?_) Tryz.underlying71 rfl infoR) rfl ?_
        · have h1 : (w.alloc (Obj.cells #[.string ⟨#[]⟩, .int .u32 0, .slice none 0 0] 71)).cell? ⟨w.heap.size, 0 + k, none⟩ = some v := by rw [World.cell?_alloc_at _ _ _ _ rfl, Nat.zero_add]; simpa [zs] using hv
          exact ((Up.refl _).alloc _).cell h1
        · exact ⟨⟨⟨#[]⟩, 0, []⟩, none, 0, rfl, HL.out, ⟨none, 0, rfl, Nat.le_refl _, .inl rfl⟩, fun b hb => (by cases hb), hu0⟩
      have hjl' : (j : Int) < (s.size : Int) := by omega
      have hjg : ¬ (s.size : Int) ≤ (j : Int) := by omega
      by_cases hb : ((s[j]'hjl).toNat : Int) = 32
      rotate_left
      · have HN := Hid.of (nb_succ hJ.out (fun h => hb ((HG.out j hjl).1 h)))
        go_wp2
        go_roundw
        case rel => exact ⟨j + 1, by go_num, by omega, by omega, HN.out, by simp⟩
        case measure => simp [intOf]; omega
      have HB := Hid.of (And.intro hJ.out ((HG.out j hjl).2 hb))
      have hw2 : IntKind.i64.wrap ((j : Int) + 1) = ((j + 1 : Nat) : Int) := by simp only [IntKind.wrap, IntKind.signed, IntKind.bits]; simp; omega
      go_wp2_with fail
      obtain ⟨nm, HNM⟩ : ∃ nm, Hid (s.extract (i + 1) j = nm ∧ nm.data.toList = (s.data.toList.drop (i + 1)).take (j - (i + 1))) := ⟨_, Hid.of ⟨rfl, by simp [ByteArray.data_extract, List.extract_eq_take_drop]⟩⟩
      obtain ⟨cd, HCD⟩ : ∃ cd, Hid (s.extract (j + 1) s.size = cd ∧ cd.data.toList = s.data.toList.drop (j + 1)) := ⟨_, Hid.of ⟨rfl, by
        rw [ByteArray.data_extract, Array.toList_extract, List.extract_eq_take_drop, List.take_of_length_le (by rw [List.length_drop, ← HZ.out]; omega)]⟩⟩
      rw [HNM.out.1, HCD.out.1]
      clear hu0 hb hlt' hjl' hjg hlt hw2
      have hu1 := ((Up.refl w).alloc (Obj.cells #[.string ⟨#[]⟩, .int .u32 0, .slice none 0 0] 71)).alloc (Obj.cells #[.string nm, .int .u32 0, .slice none 0 0] 71)
      have hR : ((w.alloc (Obj.cells #[.string ⟨#[]⟩, .int .u32 0, .slice none 0 0] 71)).alloc (Obj.cells #[.string nm, .int .u32 0, .slice none 0 0] 71)).there w.heap.size 0 3 := there_up (there_new w [.string ⟨#[]⟩, .int .u32 0, .slice none 0 0] 71) (by simp) ((Up.refl _).alloc _)
      have hz0 : (w.alloc (Obj.cells #[.string ⟨#[]⟩, .int .u32 0, .slice none 0 0] 71)).heap.size = w.heap.size + 1 := by simp
      have hG0 := there_new (w.alloc (Obj.cells #[.string ⟨#[]⟩, .int .u32 0, .slice none 0 0] 71)) [.string nm, .int .u32 0, .slice none 0 0] 71
      have hC := cells_new (w.alloc (Obj.cells #[.string ⟨#[]⟩, .int .u32 0, .slice none 0 0] 71)) 71 [.string nm, .int .u32 0, .slice none 0 0]
      have hz1 : ((w.alloc (Obj.cells #[.string ⟨#[]⟩, .int .u32 0, .slice none 0 0] 71)).alloc (Obj.cells #[.string nm, .int .u32 0, .slice none 0 0] 71)).heap.size = w.heap.size + 2 := by simp
      rw [hz0] at hG0 hC
      have hC0 := hC 0 _ rfl
      have hC1 := hC 1 _ rfl
      have hC2 := hC 2 _ rfl
      rw [add_plain, Nat.zero_add] at hC0 hC1 hC2
      change Calls _ _ _ ((w.alloc (Obj.cells #[.string ⟨#[]⟩, .int .u32 0, .slice none 0 0] 71)).alloc (Obj.cells #[.string nm, .int .u32 0, .slice none 0 0] 71)) _
      generalize (w.alloc (Obj.cells #[.string ⟨#[]⟩, .int .u32 0, .slice none 0 0] 71)).alloc (Obj.cells #[.string nm, .int .u32 0, .slice none 0 0] 71) = w1 at *
      clear hC hz0
      refine (RDecode64_walk cd w1).mono ?_
      rintro e w2 ⟨v2, rfl, hO, u2⟩
      have c0 := u2.cell hC0
      have c1 := u2.cell hC1
      have c2 := u2.cell hC2
      have H2 := Hid.of (show w2.there w.heap.size 0 3 ∧ w2.there (w.heap.size + 1) 0 3 ∧ Up w w2 ∧ w.heap.size + 2 ≤ w2.heap.size from ⟨there_up hR (by omega) u2, there_up hG0 (by omega) u2, hu1.trans u2, by rw [← hz1]; exact u2.size⟩)
      rw [hz1] at hO
      have HO := Hid.of hO
      clear u2 hO hC0 hC1 hC2 hR hG0 hu1
      rw [HCD.out.2] at HO ⊢
      have HLO := Hid.of (fun (x : Sg) (hx : okS x) (hl : s.data.toList = sigB x) => lo_at HA.out.1 (by have := HZ.out; omega) (fun _ => HA.out.2) HB.out.1 hij (fun _ => HB.out.2) (.inl (by have := HZ.out; omega)) hx hl)
      have HBR := Hid.of (show b64R (s.data.toList.drop (j + 1)) = b64R (s.data.toList.drop (j + 1)) from rfl)
      generalize hbr : b64R (s.data.toList.drop (j + 1)) = br at HO HBR ⊢
      clear HBR
      have HBR := Hid.of hbr
      clear hbr
      obtain ⟨bl, be⟩ := br
      dsimp only at HO ⊢
      have HNS := Hid.of (show nm.size ≤ s.data.toList.length by rw [Go.Lib.size_eq, HNM.out.2, List.length_take, List.length_drop]; omega)
      obtain ⟨av, cv, rfl⟩ := HO.out.len
      have HBL := Hid.of (show bl.length ≤ s.data.toList.length from by
        have h1 := b64R_len (s.data.toList.drop (j + 1))
        rw [HBR.out, List.length_drop] at h1
        simp only at h1
        omega)
      obtain ⟨nl, hnl⟩ : ∃ nl, bl.length = nl := ⟨_, rfl⟩
      rw [hnl]
      have HBAD := Hid.of (show (be ≠ 0 ∨ nl < 4) → Lo s.data.toList ⟨nm, 0, []⟩ from fun hbad => ⟨⟨show 0 < 4294967296 by decide, HNS.out, Nat.zero_le _⟩, fun x hx _ hxs hl => by
        obtain ⟨rfl, rfl⟩ := HLO.out x hx hl
        have h1 := (lo_parts hxs).2
        rw [← hl, HBR.out] at h1
        injection h1 with h2 h3
        rcases hbad with h | h
        · exact absurd h3 h
        · rw [h2, List.length_append] at hnl
          simp only [hb4, List.length_cons, List.length_nil] at hnl
          omega⟩)
      by_cases hbe : be = 0
      rotate_left
      · have hbe' : (be == 0) = false := by simpa using hbe
        have HL := Hid.of (HBAD.out (.inl hbe))
        go_wp2_with (with_reducible show wpList _ _ _ ({ dst := _, op := Op.store 71 (.tmp 2) _, type := _, pos := _, after := _, guard := _ } :: _) _ _; refine Shut.out ?_)
        show wpList _ _ _ _ _ _
        refine wpList_store_mid rfl _ _ _ rfl w.heap.size 0 #[.string nm, .int .u32 0, .slice none 0 0] rfl rfl (by exact H2.out.1) infoR (by simp [Value.oneCell']) ?_
        simp only [Act.put]
        have hrg := World.rangeAt_setCells_same w2 w.heap.size 0 [.string nm, .int .u32 0, .slice none 0 0] (by exact H2.out.1)
        have HUZ := Hid.of (up_setCells (Nat.le_refl _) [.string nm, .int .u32 0, .slice none 0 0] 0 H2.out.2.2.1)
        generalize World.setCells w2 w.heap.size 0 [.string nm, .int .u32 0, .slice none 0 0] = WZ at *
        go_wp2_with fail
        refine bodyPost_ret (result_cell1 Tryz.results30 _ _ w.heap.size [.string nm, .int .u32 0, .slice none 0 0] rfl hrg Tryz.underlying71 rfl infoR) rfl ?_
        exact ⟨⟨nm, 0, []⟩, none, 0, rfl, HL.out, ⟨none, 0, rfl, Nat.le_refl _, .inl rfl⟩, fun b hb => (by cases hb), HUZ.out⟩
      subst hbe
      by_cases hn4 : nl < 4
      · have hn4' : (nl : Int) < 4 := by omega
        have HL := Hid.of (HBAD.out (.inr hn4))
        go_wp2_with (with_reducible show wpList _ _ _ ({ dst := _, op := Op.store 71 (.tmp 2) _, type := _, pos := _, after := _, guard := _ } :: _) _ _; refine Shut.out ?_)
        show wpList _ _ _ _ _ _
        refine wpList_store_mid rfl _ _ _ rfl w.heap.size 0 #[.string nm, .int .u32 0, .slice none 0 0] rfl rfl (by exact H2.out.1) infoR (by simp [Value.oneCell']) ?_
        simp only [Act.put]
        have hrg := World.rangeAt_setCells_same w2 w.heap.size 0 [.string nm, .int .u32 0, .slice none 0 0] (by exact H2.out.1)
        have HUZ := Hid.of (up_setCells (Nat.le_refl _) [.string nm, .int .u32 0, .slice none 0 0] 0 H2.out.2.2.1)
        generalize World.setCells w2 w.heap.size 0 [.string nm, .int .u32 0, .slice none 0 0] = WZ at *
        go_wp2_with fail
        refine bodyPost_ret (result_cell1 Tryz.results30 _ _ w.heap.size [.string nm, .int .u32 0, .slice none 0 0] rfl hrg Tryz.underlying71 rfl infoR) rfl ?_
        exact ⟨⟨nm, 0, []⟩, none, 0, rfl, HL.out, ⟨none, 0, rfl, Nat.le_refl _, .inl rfl⟩, fun b hb => (by cases hb), HUZ.out⟩
      have hn4' : ¬ (nl : Int) < 4 := by omega
      clear HBAD
      obtain ⟨x0, x1, x2, x3, r4, rfl⟩ := four4 (show 4 ≤ bl.length by omega)
      obtain ⟨g, rfl, hg0, hc0, hc1, hc2, hc3⟩ : ∃ g, av = some ⟨g, 0, none⟩ ∧ w.heap.size + 2 ≤ g ∧ w2.cell? ⟨g, 0, none⟩ = some (.int .u8 (x0.toNat : Int)) ∧ w2.cell? ⟨g, 1, none⟩ = some (.int .u8 (x1.toNat : Int)) ∧ w2.cell? ⟨g, 2, none⟩ = some (.int .u8 (x2.toNat : Int)) ∧ w2.cell? ⟨g, 3, none⟩ = some (.int .u8 (x3.toNat : Int)) := by
        rcases HO.out.2 with ⟨e, _⟩ | ⟨g, cap, cur, e, hb, hg, _⟩
        · injection e with _ e2 _
          simp at e2
        · injection e with e1 _ _
          have hcs := World.ownsRow.cells HO.out (g := g) (by rw [e1]; rfl)
          refine ⟨g, e1, hb, ?_, ?_, ?_, ?_⟩
          · exact hcs 0 _ rfl
          · exact hcs 1 _ rfl
          · exact hcs 2 _ rfl
          · exact hcs 3 _ rfl
      have hsl := HO.out.sl
      rw [hnl] at hsl
      clear HO
      have hgneG : g ≠ w.heap.size + 1 := by omega
      have hgneR : g ≠ w.heap.size := by omega
      have h00 := x0.toNat_lt
      have h01 := x1.toNat_lt
      have h02 := x2.toNat_lt
      have h03 := x3.toNat_lt
      have hnl4 : (4 : Int) ≤ (nl : Int) := by omega
      have q0 : (0 : Int) < (nl : Int) := by omega
      have hnz : ¬ nl = 0 := by omega
      have q1 : (1 : Int) < (nl : Int) := by omega
      have q2 : (2 : Int) < (nl : Int) := by omega
      have q3 : (3 : Int) < (nl : Int) := by omega
      go_wp2_with fail
      refine wp_region_held_drew (S := fun wx => (wx.cell? ⟨g, 0, none⟩ = some (.int .u8 (x0.toNat : Int)) ∧ wx.cell? ⟨g, 1, none⟩ = some (.int .u8 (x1.toNat : Int)) ∧ wx.cell? ⟨g, 2, none⟩ = some (.int .u8 (x2.toNat : Int)) ∧ wx.cell? ⟨g, 3, none⟩ = some (.int .u8 (x3.toNat : Int))) ∧ wx.cell? ⟨w.heap.size + 1, 0, none⟩ = some (.string nm) ∧ wx.cell? ⟨w.heap.size + 1, 2, none⟩ = some (.slice none 0 0) ∧ wx.there (w.heap.size + 1) 0 3 ∧ wx.there w.heap.size 0 3 ∧ Sl wx (.slice (some ⟨g, 0, none⟩) nl cv) (x0 :: x1 :: x2 :: x3 :: r4) ∧ Up w wx ∧ w.heap.size + 2 ≤ wx.heap.size) (by kernel_rfl) ⟨⟨hc0, hc1, hc2, hc3⟩, c0, c2, H2.out.2.1, H2.out.1, hsl.up (Up.refl w2).drew, H2.out.2.2.1.drew, H2.out.2.2.2⟩ (fun hS => ?_)
      have HC1 := Hid.of c1
      clear hc0 hc1 hc2 hc3 hsl H2 c0 c1 c2
      refine wpAnyH_take (i := 0) (oi := { dst := some 61, op := Go.Op.move (Go.Operand.tmp 6), type := 23, pos := "ref.go:342", after := #[], guard := none }) (v := .slice (some ⟨g, 0, none⟩) nl cv) rfl (by kernel_rfl) (by kernel_rfl) (by kernel_rfl) (fun _ _ _ h => h) (Or.inl ⟨by kernel_rfl, ?_⟩) hS ?_
      · intro w5 hSw
        clear hSw hS
        go_simp
      simp only [Act.put, List.setIfInBounds_toArray, List.set_cons_zero, List.set_cons_succ]
      refine wpAnyH_take (i := 1) (oi := { dst := some 62, op := Go.Op.indexAddr 23 (Go.Operand.tmp 61) (Go.Operand.const (Go.Value.int Go.IntKind.i64 0)), type := 0, pos := "ref.go:342", after := #[{ on := 0, ground := Go.Ground.data }], guard := none }) (v := .pointer (some ⟨g, 0, none⟩)) rfl (by kernel_rfl) (by kernel_rfl) (by kernel_rfl) (fun _ _ _ h => h) (Or.inl ⟨by kernel_rfl, ?_⟩) hS ?_
      · intro w5 hSw
        clear hSw hS
        go_simp
      simp only [Act.put, List.setIfInBounds_toArray, List.set_cons_zero, List.set_cons_succ]
      refine wpAnyH_take (i := 2) (oi := { dst := some 63, op := Go.Op.load 5 (Go.Operand.tmp 62), type := 5, pos := "ref.go:342", after := #[{ on := 1, ground := Go.Ground.data }], guard := none }) (v := .int .u8 (x0.toNat : Int)) rfl (by kernel_rfl) (by kernel_rfl) (by kernel_rfl) (fun _ _ _ h => h) (Or.inl ⟨by kernel_rfl, ?_⟩) hS ?_
      · intro w5 hSw
        have h1 := hSw.1.1
        have h2 := hSw.1.2.1
        have h3 := hSw.1.2.2.1
        have h4 := hSw.1.2.2.2
        clear hSw hS
        go_simp
      simp only [Act.put, List.setIfInBounds_toArray, List.set_cons_zero, List.set_cons_succ]
      refine wpAnyH_take (i := 3) (oi := { dst := some 64, op := Go.Op.convert 5 69 (Go.Operand.tmp 63), type := 69, pos := "ref.go:342", after := #[{ on := 2, ground := Go.Ground.data }], guard := none }) (v := .int .u32 (x0.toNat : Int)) rfl (by kernel_rfl) (by kernel_rfl) (by kernel_rfl) (fun _ _ _ h => h) (Or.inl ⟨by kernel_rfl, ?_⟩) hS ?_
      · intro w5 hSw
        clear hSw hS
        go_simp <;> exact w32 (by omega)
      simp only [Act.put, List.setIfInBounds_toArray, List.set_cons_zero, List.set_cons_succ]
      refine wpAnyH_take (i := 4) (oi := { dst := some 65, op := Go.Op.binOp Go.BinOp.shl 69 (Go.Operand.tmp 64) (Go.Operand.const (Go.Value.int Go.IntKind.u64 24)) 82, type := 69, pos := "ref.go:342", after := #[{ on := 3, ground := Go.Ground.data }], guard := none }) (v := .int .u32 ((x0.toNat : Int) * 16777216)) rfl (by kernel_rfl) (by kernel_rfl) (by kernel_rfl) (fun _ _ _ h => h) (Or.inl ⟨by kernel_rfl, ?_⟩) hS ?_
      · intro w5 hSw
        clear hSw hS
        go_simp <;> exact w32 (by omega)
      simp only [Act.put, List.setIfInBounds_toArray, List.set_cons_zero, List.set_cons_succ]
      refine wpAnyH_take (i := 5) (oi := { dst := some 66, op := Go.Op.move (Go.Operand.tmp 6), type := 23, pos := "ref.go:342", after := #[], guard := none }) (v := .slice (some ⟨g, 0, none⟩) nl cv) rfl (by kernel_rfl) (by kernel_rfl) (by kernel_rfl) (fun _ _ _ h => h) (Or.inl ⟨by kernel_rfl, ?_⟩) hS ?_
      · intro w5 hSw
        clear hSw hS
        go_simp
      simp only [Act.put, List.setIfInBounds_toArray, List.set_cons_zero, List.set_cons_succ]
      refine wpAnyH_take (i := 6) (oi := { dst := some 67, op := Go.Op.indexAddr 23 (Go.Operand.tmp 66) (Go.Operand.const (Go.Value.int Go.IntKind.i64 1)), type := 0, pos := "ref.go:342", after := #[{ on := 5, ground := Go.Ground.data }], guard := none }) (v := .pointer (some ⟨g, 1, none⟩)) rfl (by kernel_rfl) (by kernel_rfl) (by kernel_rfl) (fun _ _ _ h => h) (Or.inl ⟨by kernel_rfl, ?_⟩) hS ?_
      · intro w5 hSw
        clear hSw hS
        go_simp
      simp only [Act.put, List.setIfInBounds_toArray, List.set_cons_zero, List.set_cons_succ]
      refine wpAnyH_take (i := 7) (oi := { dst := some 68, op := Go.Op.load 5 (Go.Operand.tmp 67), type := 5, pos := "ref.go:342", after := #[{ on := 6, ground := Go.Ground.data }], guard := none }) (v := .int .u8 (x1.toNat : Int)) rfl (by kernel_rfl) (by kernel_rfl) (by kernel_rfl) (fun _ _ _ h => h) (Or.inl ⟨by kernel_rfl, ?_⟩) hS ?_
      · intro w5 hSw
        have h1 := hSw.1.1
        have h2 := hSw.1.2.1
        have h3 := hSw.1.2.2.1
        have h4 := hSw.1.2.2.2
        clear hSw hS
        go_simp
      simp only [Act.put, List.setIfInBounds_toArray, List.set_cons_zero, List.set_cons_succ]
      refine wpAnyH_take (i := 8) (oi := { dst := some 69, op := Go.Op.convert 5 69 (Go.Operand.tmp 68), type := 69, pos := "ref.go:342", after := #[{ on := 7, ground := Go.Ground.data }], guard := none }) (v := .int .u32 (x1.toNat : Int)) rfl (by kernel_rfl) (by kernel_rfl) (by kernel_rfl) (fun _ _ _ h => h) (Or.inl ⟨by kernel_rfl, ?_⟩) hS ?_
      · intro w5 hSw
        clear hSw hS
        go_simp <;> exact w32 (by omega)
      simp only [Act.put, List.setIfInBounds_toArray, List.set_cons_zero, List.set_cons_succ]
      refine wpAnyH_take (i := 9) (oi := { dst := some 70, op := Go.Op.binOp Go.BinOp.shl 69 (Go.Operand.tmp 69) (Go.Operand.const (Go.Value.int Go.IntKind.u64 16)) 82, type := 69, pos := "ref.go:342", after := #[{ on := 8, ground := Go.Ground.data }], guard := none }) (v := .int .u32 ((x1.toNat : Int) * 65536)) rfl (by kernel_rfl) (by kernel_rfl) (by kernel_rfl) (fun _ _ _ h => h) (Or.inl ⟨by kernel_rfl, ?_⟩) hS ?_
      · intro w5 hSw
        clear hSw hS
        go_simp <;> exact w32 (by omega)
      simp only [Act.put, List.setIfInBounds_toArray, List.set_cons_zero, List.set_cons_succ]
      refine wpAnyH_take (i := 10) (oi := { dst := some 71, op := Go.Op.binOp Go.BinOp.add 69 (Go.Operand.tmp 65) (Go.Operand.tmp 70) 69, type := 69, pos := "ref.go:342", after := #[{ on := 4, ground := Go.Ground.data }, { on := 9, ground := Go.Ground.data }], guard := none }) (v := .int .u32 ((x0.toNat : Int) * 16777216 + (x1.toNat : Int) * 65536)) rfl (by kernel_rfl) (by kernel_rfl) (by kernel_rfl) (fun _ _ _ h => h) (Or.inl ⟨by kernel_rfl, ?_⟩) hS ?_
      · intro w5 hSw
        clear hSw hS
        go_simp <;> exact w32 (by omega)
      simp only [Act.put, List.setIfInBounds_toArray, List.set_cons_zero, List.set_cons_succ]
      refine wpAnyH_take (i := 11) (oi := { dst := some 72, op := Go.Op.move (Go.Operand.tmp 6), type := 23, pos := "ref.go:342", after := #[], guard := none }) (v := .slice (some ⟨g, 0, none⟩) nl cv) rfl (by kernel_rfl) (by kernel_rfl) (by kernel_rfl) (fun _ _ _ h => h) (Or.inl ⟨by kernel_rfl, ?_⟩) hS ?_
      · intro w5 hSw
        clear hSw hS
        go_simp
      simp only [Act.put, List.setIfInBounds_toArray, List.set_cons_zero, List.set_cons_succ]
      refine wpAnyH_take (i := 12) (oi := { dst := some 73, op := Go.Op.indexAddr 23 (Go.Operand.tmp 72) (Go.Operand.const (Go.Value.int Go.IntKind.i64 2)), type := 0, pos := "ref.go:342", after := #[{ on := 11, ground := Go.Ground.data }], guard := none }) (v := .pointer (some ⟨g, 2, none⟩)) rfl (by kernel_rfl) (by kernel_rfl) (by kernel_rfl) (fun _ _ _ h => h) (Or.inl ⟨by kernel_rfl, ?_⟩) hS ?_
      · intro w5 hSw
        clear hSw hS
        go_simp
      simp only [Act.put, List.setIfInBounds_toArray, List.set_cons_zero, List.set_cons_succ]
      refine wpAnyH_take (i := 13) (oi := { dst := some 74, op := Go.Op.load 5 (Go.Operand.tmp 73), type := 5, pos := "ref.go:342", after := #[{ on := 12, ground := Go.Ground.data }], guard := none }) (v := .int .u8 (x2.toNat : Int)) rfl (by kernel_rfl) (by kernel_rfl) (by kernel_rfl) (fun _ _ _ h => h) (Or.inl ⟨by kernel_rfl, ?_⟩) hS ?_
      · intro w5 hSw
        have h1 := hSw.1.1
        have h2 := hSw.1.2.1
        have h3 := hSw.1.2.2.1
        have h4 := hSw.1.2.2.2
        clear hSw hS
        go_simp
      simp only [Act.put, List.setIfInBounds_toArray, List.set_cons_zero, List.set_cons_succ]
      refine wpAnyH_take (i := 14) (oi := { dst := some 75, op := Go.Op.convert 5 69 (Go.Operand.tmp 74), type := 69, pos := "ref.go:342", after := #[{ on := 13, ground := Go.Ground.data }], guard := none }) (v := .int .u32 (x2.toNat : Int)) rfl (by kernel_rfl) (by kernel_rfl) (by kernel_rfl) (fun _ _ _ h => h) (Or.inl ⟨by kernel_rfl, ?_⟩) hS ?_
      · intro w5 hSw
        clear hSw hS
        go_simp <;> exact w32 (by omega)
      simp only [Act.put, List.setIfInBounds_toArray, List.set_cons_zero, List.set_cons_succ]
      refine wpAnyH_take (i := 15) (oi := { dst := some 76, op := Go.Op.binOp Go.BinOp.shl 69 (Go.Operand.tmp 75) (Go.Operand.const (Go.Value.int Go.IntKind.u64 8)) 82, type := 69, pos := "ref.go:342", after := #[{ on := 14, ground := Go.Ground.data }], guard := none }) (v := .int .u32 ((x2.toNat : Int) * 256)) rfl (by kernel_rfl) (by kernel_rfl) (by kernel_rfl) (fun _ _ _ h => h) (Or.inl ⟨by kernel_rfl, ?_⟩) hS ?_
      · intro w5 hSw
        clear hSw hS
        go_simp <;> exact w32 (by omega)
      simp only [Act.put, List.setIfInBounds_toArray, List.set_cons_zero, List.set_cons_succ]
      refine wpAnyH_take (i := 16) (oi := { dst := some 77, op := Go.Op.binOp Go.BinOp.add 69 (Go.Operand.tmp 71) (Go.Operand.tmp 76) 69, type := 69, pos := "ref.go:342", after := #[{ on := 10, ground := Go.Ground.data }, { on := 15, ground := Go.Ground.data }], guard := none }) (v := .int .u32 ((x0.toNat : Int) * 16777216 + (x1.toNat : Int) * 65536 + (x2.toNat : Int) * 256)) rfl (by kernel_rfl) (by kernel_rfl) (by kernel_rfl) (fun _ _ _ h => h) (Or.inl ⟨by kernel_rfl, ?_⟩) hS ?_
      · intro w5 hSw
        clear hSw hS
        go_simp <;> exact w32 (by omega)
      simp only [Act.put, List.setIfInBounds_toArray, List.set_cons_zero, List.set_cons_succ]
      refine wpAnyH_take (i := 17) (oi := { dst := some 78, op := Go.Op.move (Go.Operand.tmp 6), type := 23, pos := "ref.go:342", after := #[], guard := none }) (v := .slice (some ⟨g, 0, none⟩) nl cv) rfl (by kernel_rfl) (by kernel_rfl) (by kernel_rfl) (fun _ _ _ h => h) (Or.inl ⟨by kernel_rfl, ?_⟩) hS ?_
      · intro w5 hSw
        clear hSw hS
        go_simp
      simp only [Act.put, List.setIfInBounds_toArray, List.set_cons_zero, List.set_cons_succ]
      refine wpAnyH_take (i := 18) (oi := { dst := some 79, op := Go.Op.indexAddr 23 (Go.Operand.tmp 78) (Go.Operand.const (Go.Value.int Go.IntKind.i64 3)), type := 0, pos := "ref.go:342", after := #[{ on := 17, ground := Go.Ground.data }], guard := none }) (v := .pointer (some ⟨g, 3, none⟩)) rfl (by kernel_rfl) (by kernel_rfl) (by kernel_rfl) (fun _ _ _ h => h) (Or.inl ⟨by kernel_rfl, ?_⟩) hS ?_
      · intro w5 hSw
        clear hSw hS
        go_simp
      simp only [Act.put, List.setIfInBounds_toArray, List.set_cons_zero, List.set_cons_succ]
      refine wpAnyH_take (i := 19) (oi := { dst := some 80, op := Go.Op.load 5 (Go.Operand.tmp 79), type := 5, pos := "ref.go:342", after := #[{ on := 18, ground := Go.Ground.data }], guard := none }) (v := .int .u8 (x3.toNat : Int)) rfl (by kernel_rfl) (by kernel_rfl) (by kernel_rfl) (fun _ _ _ h => h) (Or.inl ⟨by kernel_rfl, ?_⟩) hS ?_
      · intro w5 hSw
        have h1 := hSw.1.1
        have h2 := hSw.1.2.1
        have h3 := hSw.1.2.2.1
        have h4 := hSw.1.2.2.2
        clear hSw hS
        go_simp
      simp only [Act.put, List.setIfInBounds_toArray, List.set_cons_zero, List.set_cons_succ]
      refine wpAnyH_take (i := 20) (oi := { dst := some 81, op := Go.Op.convert 5 69 (Go.Operand.tmp 80), type := 69, pos := "ref.go:342", after := #[{ on := 19, ground := Go.Ground.data }], guard := none }) (v := .int .u32 (x3.toNat : Int)) rfl (by kernel_rfl) (by kernel_rfl) (by kernel_rfl) (fun _ _ _ h => h) (Or.inl ⟨by kernel_rfl, ?_⟩) hS ?_
      · intro w5 hSw
        clear hSw hS
        go_simp <;> exact w32 (by omega)
      simp only [Act.put, List.setIfInBounds_toArray, List.set_cons_zero, List.set_cons_succ]
      refine wpAnyH_take (i := 21) (oi := { dst := some 82, op := Go.Op.binOp Go.BinOp.add 69 (Go.Operand.tmp 77) (Go.Operand.tmp 81) 69, type := 69, pos := "ref.go:342", after := #[{ on := 16, ground := Go.Ground.data }, { on := 20, ground := Go.Ground.data }], guard := none }) (v := .int .u32 ((x0.toNat : Int) * 16777216 + (x1.toNat : Int) * 65536 + (x2.toNat : Int) * 256 + (x3.toNat : Int))) rfl (by kernel_rfl) (by kernel_rfl) (by kernel_rfl) (fun _ _ _ h => h) (Or.inl ⟨by kernel_rfl, ?_⟩) hS ?_
      · intro w5 hSw
        clear hSw hS
        go_simp <;> exact w32 (by omega)
      simp only [Act.put, List.setIfInBounds_toArray, List.set_cons_zero, List.set_cons_succ]
      refine wpAnyH_take (i := 22) (oi := { dst := some 83, op := Go.Op.fieldAddr 71 (Go.Operand.tmp 3) 1, type := 0, pos := "ref.go:342", after := #[{ on := 0, ground := Go.Ground.phase }, { on := 1, ground := Go.Ground.phase }, { on := 2, ground := Go.Ground.phase }, { on := 3, ground := Go.Ground.phase }, { on := 4, ground := Go.Ground.phase }, { on := 5, ground := Go.Ground.phase }, { on := 6, ground := Go.Ground.phase }, { on := 7, ground := Go.Ground.phase }, { on := 8, ground := Go.Ground.phase }, { on := 9, ground := Go.Ground.phase }, { on := 10, ground := Go.Ground.phase }, { on := 11, ground := Go.Ground.phase }, { on := 12, ground := Go.Ground.phase }, { on := 13, ground := Go.Ground.phase }, { on := 14, ground := Go.Ground.phase }, { on := 15, ground := Go.Ground.phase }, { on := 16, ground := Go.Ground.phase }, { on := 17, ground := Go.Ground.phase }, { on := 18, ground := Go.Ground.phase }, { on := 19, ground := Go.Ground.phase }, { on := 20, ground := Go.Ground.phase }, { on := 21, ground := Go.Ground.phase }], guard := none }) (v := .pointer (some ⟨w.heap.size + 1, 1, none⟩)) rfl (by kernel_rfl) (by kernel_rfl) (by kernel_rfl) (fun _ _ _ h => h) (Or.inl ⟨by kernel_rfl, ?_⟩) hS ?_
      · intro w5 hSw
        clear hSw hS
        go_simp
      simp only [Act.put, List.setIfInBounds_toArray, List.set_cons_zero, List.set_cons_succ]
      refine wpAnyH_ready (rs := [23]) (by kernel_rfl) (by simp) ?_
      refine AllReadyH.cons (o := { dst := none, op := Go.Op.store 69 (Go.Operand.tmp 83) (Go.Operand.tmp 82), type := 0, pos := "ref.go:342", after := #[{ on := 22, ground := Go.Ground.data }, { on := 21, ground := Go.Ground.data }, { on := 0, ground := Go.Ground.phase }, { on := 1, ground := Go.Ground.phase }, { on := 2, ground := Go.Ground.phase }, { on := 3, ground := Go.Ground.phase }, { on := 4, ground := Go.Ground.phase }, { on := 5, ground := Go.Ground.phase }, { on := 6, ground := Go.Ground.phase }, { on := 7, ground := Go.Ground.phase }, { on := 8, ground := Go.Ground.phase }, { on := 9, ground := Go.Ground.phase }, { on := 10, ground := Go.Ground.phase }, { on := 11, ground := Go.Ground.phase }, { on := 12, ground := Go.Ground.phase }, { on := 13, ground := Go.Ground.phase }, { on := 14, ground := Go.Ground.phase }, { on := 15, ground := Go.Ground.phase }, { on := 16, ground := Go.Ground.phase }, { on := 17, ground := Go.Ground.phase }, { on := 18, ground := Go.Ground.phase }, { on := 19, ground := Go.Ground.phase }, { on := 20, ground := Go.Ground.phase }, { on := 21, ground := Go.Ground.phase }], guard := none }) rfl (fun K hK => ?_) AllReadyH.nil
      rw [if_pos (by kernel_rfl)]
      have hcG := HC1.out
      have hfG := (hS.2.2.2.1 1 (by decide)).2
      rw [Nat.zero_add] at hfG
      obtain ⟨hh, hhe, HHH⟩ : ∃ hh : Nat, (x0.toNat : Int) * 16777216 + (x1.toNat : Int) * 65536 + (x2.toNat : Int) * 256 + (x3.toNat : Int) = (hh : Int) ∧ Hid (hh = h4 (x0 :: x1 :: x2 :: x3 :: r4)) := ⟨h4 (x0 :: x1 :: x2 :: x3 :: r4), by simp only [h4, List.getD_cons_zero, List.getD_cons_succ]; omega, Hid.of rfl⟩
      rw [hhe]
      have HS := Hid.of hS
      clear hS
      go_simp
      clear hcG hfG hhe HC1
      have hS2 : ((w2.setCell ⟨w.heap.size + 1, 1, none⟩ (.int .u32 (hh : Int))).drew.cell? ⟨w.heap.size + 1, 1, none⟩ = some (.int .u32 (hh : Int))) ∧ (fun wx => (wx.cell? ⟨g, 0, none⟩ = some (.int .u8 (x0.toNat : Int)) ∧ wx.cell? ⟨g, 1, none⟩ = some (.int .u8 (x1.toNat : Int)) ∧ wx.cell? ⟨g, 2, none⟩ = some (.int .u8 (x2.toNat : Int)) ∧ wx.cell? ⟨g, 3, none⟩ = some (.int .u8 (x3.toNat : Int))) ∧ wx.cell? ⟨w.heap.size + 1, 0, none⟩ = some (.string nm) ∧ wx.cell? ⟨w.heap.size + 1, 2, none⟩ = some (.slice none 0 0) ∧ wx.there (w.heap.size + 1) 0 3 ∧ wx.there w.heap.size 0 3 ∧ Sl wx (.slice (some ⟨g, 0, none⟩) nl cv) (x0 :: x1 :: x2 :: x3 :: r4) ∧ Up w wx ∧ w.heap.size + 2 ≤ wx.heap.size) (w2.setCell ⟨w.heap.size + 1, 1, none⟩ (.int .u32 (hh : Int))).drew := by
        have hT := HS.out
        rw [setC_eq]
        have hgl : ∀ k, (w2.drew.setCells (w.heap.size + 1) 1 [.int .u32 (hh : Int)]).cell? ⟨g, k, none⟩ = w2.drew.cell? ⟨g, k, none⟩ := fun k => World.cell?_setCells_out _ _ _ _ _ (fun e => absurd e hgneG)
        have hGl : ∀ k, k ≠ 1 → (w2.drew.setCells (w.heap.size + 1) 1 [.int .u32 (hh : Int)]).cell? ⟨w.heap.size + 1, k, none⟩ = w2.drew.cell? ⟨w.heap.size + 1, k, none⟩ := fun k hk => World.cell?_setCells_out _ _ _ _ _ (fun _ => by simp; omega)
        refine ⟨?_, ⟨(hgl 0).trans hT.1.1, (hgl 1).trans hT.1.2.1, (hgl 2).trans hT.1.2.2.1, (hgl 3).trans hT.1.2.2.2⟩, (hGl 0 (by decide)).trans hT.2.1, (hGl 2 (by decide)).trans hT.2.2.1, World.there_setCells hT.2.2.2.1 _ _ _, World.there_setCells hT.2.2.2.2.1 _ _ _, Sl.setC hT.2.2.2.2.2.1 (fun b' e => by have e' : some g = some b' := e; injection e' with e'; omega), up_setCells (Nat.le_succ _) _ 1 hT.2.2.2.2.2.2.1, by rw [setCells_size]; exact hT.2.2.2.2.2.2.2⟩
        exact World.rangeAt_setCells_same w2.drew (w.heap.size + 1) 1 [.int .u32 (hh : Int)] (fun k hk => by obtain rfl : k = 0 := (by simpa using hk); have := hT.2.2.2.1 1 (by decide); rw [Nat.zero_add] at this; exact this) 0 _ rfl
      generalize (w2.setCell ⟨w.heap.size + 1, 1, none⟩ (.int .u32 (hh : Int))).drew = w3 at *
      have HG1 := Hid.of hS2.1
      refine hK.out _ _ hS2.2 (fun hS => ?_)
      clear hK hS2 K HS
      have HS := Hid.of hS
      clear hS
      refine wpAnyH_done (by kernel_rfl) ?_ _
      go_wp2_with fail
      obtain ⟨sa, sn, sc, HSD⟩ : ∃ sa sn sc, Hid (sliced (some ⟨g, 0, none⟩) 4 nl cv 1 = .slice sa sn sc) := ⟨_, _, _, Hid.of rfl⟩
      refine wp_region_held_drew (S := fun _ => True) (by kernel_rfl) True.intro (fun hS => ?_)
      refine wpAnyH_take (i := 0) (oi := { dst := some 84, op := Go.Op.fieldAddr 71 (Go.Operand.tmp 3) 2, type := 0, pos := "ref.go:343", after := #[], guard := none }) (v := .pointer (some ⟨w.heap.size + 1, 2, none⟩)) rfl (by kernel_rfl) (by kernel_rfl) (by kernel_rfl) (fun _ _ _ h => h) (Or.inl ⟨by kernel_rfl, ?_⟩) hS ?_
      · intro w5 hSw
        clear hSw
        go_simp
      simp only [Act.put, List.setIfInBounds_toArray, List.set_cons_zero, List.set_cons_succ]
      refine wpAnyH_take (i := 2) (oi := { dst := some 86, op := Go.Op.move (Go.Operand.tmp 6), type := 23, pos := "ref.go:343", after := #[], guard := none }) (v := .slice (some ⟨g, 0, none⟩) nl cv) rfl (by kernel_rfl) (by kernel_rfl) (by kernel_rfl) (fun _ _ _ h => h) (Or.inl ⟨by kernel_rfl, ?_⟩) hS ?_
      · intro w5 hSw
        clear hSw
        go_simp
      simp only [Act.put, List.setIfInBounds_toArray, List.set_cons_zero, List.set_cons_succ]
      refine wpAnyH_take (i := 3) (oi := { dst := some 87, op := Go.Op.slice 23 (Go.Operand.tmp 86) (some (Go.Operand.const (Go.Value.int Go.IntKind.i64 4))) none none, type := 23, pos := "ref.go:343", after := #[{ on := 2, ground := Go.Ground.data }], guard := none }) (v := .slice sa sn sc) rfl (by kernel_rfl) (by kernel_rfl) (by kernel_rfl) (fun _ _ _ h => h) (Or.inl ⟨by kernel_rfl, ?_⟩) hS ?_
      · intro w5 hSw
        clear hSw
        rw [← HSD.out]; go_simp <;> (intro h; exact absurd h (by omega))
      simp only [Act.put, List.setIfInBounds_toArray, List.set_cons_zero, List.set_cons_succ]
      refine wpAnyH_ready (rs := [1]) (by kernel_rfl) (by simp) ?_
      refine AllReadyH.cons (o := { dst := some 85, op := Go.Op.load 23 (Go.Operand.tmp 84), type := 23, pos := "ref.go:343", after := #[{ on := 0, ground := Go.Ground.data }], guard := none }) rfl (fun K hK => ?_) AllReadyH.nil
      rw [if_pos (by kernel_rfl)]
      have hcG := HS.out.2.2.1
      go_simp
      clear hcG
      refine hK.out _ _ True.intro (fun _ => ?_)
      clear hK K
      refine wpAnyH_ready (rs := [4]) (by kernel_rfl) (by simp) ?_
      refine AllReadyH.cons (o := { dst := some 88, op := Go.Op.call { callee := Go.Callee.builtin Go.Builtin.append, args := #[Go.Operand.tmp 85, Go.Operand.tmp 87], argTypes := #[23, 23] }, type := 23, pos := "ref.go:343", after := #[{ on := 1, ground := Go.Ground.data }, { on := 3, ground := Go.Ground.data }], guard := none }) rfl (fun K hK => ?_) AllReadyH.nil
      rw [if_pos (by kernel_rfl)]
      have hsd : Sl w3.drew (.slice sa sn sc) r4 := by
        have := sliced_drop (HS.out.2.2.2.2.2.1.up (Up.refl w3).drew) (k := 4) (by simp)
        rw [HSD.out] at this
        exact this
      refine wp_appSl (Operand.tmp 85) (Operand.tmp 87) rfl w3.heap.size (.slice none 0 0) (.slice sa sn sc) [] r4 rfl (World.ownsRow_nil _ _ 5 1) rfl hsd (by have := HBL.out; have := HZ.out; simp only [List.length_cons, List.length_nil] at *; omega) (Nat.le_refl _) ?_
      intro vb w4 hO4 b4
      rw [List.nil_append] at hO4
      simp only [Act.put, List.setIfInBounds_toArray, List.set_cons_zero, List.set_cons_succ]
      have u4 : Up w3 w4 := Below.trans (Up.refl w3).drew b4
      obtain ⟨ab, cbb, rfl⟩ := hO4.len
      have H4 := Hid.of (And.intro hO4 u4)
      clear hO4 b4 u4 hsd
      refine hK.out _ _ True.intro (fun _ => ?_)
      clear hK K
      obtain ⟨nr, hnr⟩ : ∃ nr, r4.length = nr := ⟨_, rfl⟩
      rw [hnr]
      refine wpAnyH_take (i := 5) (oi := { dst := some 89, op := Go.Op.fieldAddr 71 (Go.Operand.tmp 3) 2, type := 0, pos := "ref.go:343", after := #[{ on := 0, ground := Go.Ground.phase }, { on := 1, ground := Go.Ground.phase }, { on := 2, ground := Go.Ground.phase }, { on := 3, ground := Go.Ground.phase }, { on := 4, ground := Go.Ground.phase }], guard := none }) (v := .pointer (some ⟨w.heap.size + 1, 2, none⟩)) rfl (by kernel_rfl) (by kernel_rfl) (by kernel_rfl) (fun _ _ _ h => h) (Or.inl ⟨by kernel_rfl, ?_⟩) hS ?_
      · intro w5 hSw
        clear hSw
        go_simp
      simp only [Act.put, List.setIfInBounds_toArray, List.set_cons_zero, List.set_cons_succ]
      refine wpAnyH_ready (rs := [6]) (by kernel_rfl) (by simp) ?_
      refine AllReadyH.cons (o := { dst := none, op := Go.Op.store 23 (Go.Operand.tmp 89) (Go.Operand.tmp 88), type := 0, pos := "ref.go:343", after := #[{ on := 5, ground := Go.Ground.data }, { on := 4, ground := Go.Ground.data }, { on := 4, ground := Go.Ground.chain }, { on := 0, ground := Go.Ground.phase }, { on := 1, ground := Go.Ground.phase }, { on := 2, ground := Go.Ground.phase }, { on := 3, ground := Go.Ground.phase }, { on := 4, ground := Go.Ground.phase }], guard := none }) rfl (fun K hK => ?_) AllReadyH.nil
      rw [if_pos (by kernel_rfl)]
      have hcG := H4.out.2.cell HS.out.2.2.1
      have hfG := (there_up HS.out.2.2.2.1 (by have := HS.out.2.2.2.2.2.2.2; omega) H4.out.2 2 (by decide)).2
      rw [Nat.zero_add] at hfG
      go_simp
      clear hcG hfG
      refine hK.out _ _ True.intro (fun _ => ?_)
      clear hK K
      refine wpAnyH_done (by kernel_rfl) ?_ _
      have H5 : (w4.setCell ⟨w.heap.size + 1, 2, none⟩ (.slice ab nr cbb)).cell? ⟨w.heap.size + 1, 0, none⟩ = some (.string nm) ∧ (w4.setCell ⟨w.heap.size + 1, 2, none⟩ (.slice ab nr cbb)).cell? ⟨w.heap.size + 1, 1, none⟩ = some (.int .u32 (hh : Int)) ∧ (w4.setCell ⟨w.heap.size + 1, 2, none⟩ (.slice ab nr cbb)).cell? ⟨w.heap.size + 1, 2, none⟩ = some (.slice ab nr cbb) ∧ Hid ((w4.setCell ⟨w.heap.size + 1, 2, none⟩ (.slice ab nr cbb)).there w.heap.size 0 3 ∧ Sl (w4.setCell ⟨w.heap.size + 1, 2, none⟩ (.slice ab nr cbb)) (.slice ab nr cbb) r4 ∧ (∀ b, (Value.slice ab nr cbb).ownBlock = some b → w.heap.size + 2 ≤ b ∧ b < (w4.setCell ⟨w.heap.size + 1, 2, none⟩ (.slice ab nr cbb)).heap.size) ∧ Up w (w4.setCell ⟨w.heap.size + 1, 2, none⟩ (.slice ab nr cbb))) := by
        have hT := HS.out
        have hz := hT.2.2.2.2.2.2.2
        have hGl : ∀ k, k ≠ 2 → (w4.setCells (w.heap.size + 1) 2 [.slice ab nr cbb]).cell? ⟨w.heap.size + 1, k, none⟩ = w4.cell? ⟨w.heap.size + 1, k, none⟩ := fun k hk => World.cell?_setCells_out _ _ _ _ _ (fun _ => by simp; omega)
        have hlt : ∀ b, (Value.slice ab nr cbb).ownBlock = some b → w3.heap.size ≤ b ∧ b < w4.heap.size := fun b hb => World.ownsRow.lt H4.out.1 b (by rw [hnr]; exact hb)
        have hsl := H4.out.1.sl
        rw [hnr] at hsl
        rw [setC_eq0]
        refine ⟨(hGl 0 (by decide)).trans (H4.out.2.cell hT.2.1), (hGl 1 (by decide)).trans (H4.out.2.cell HG1.out), ?_, Hid.of ⟨World.there_setCells (there_up hT.2.2.2.2.1 (by omega) H4.out.2) _ _ _, hsl.setC (fun b' e => by have := (hlt b' e).1; omega), fun b hb => ⟨by have := (hlt b hb).1; omega, by rw [setCells_size]; exact (hlt b hb).2⟩, up_setCells (Nat.le_succ _) _ 2 (hT.2.2.2.2.2.2.1.trans H4.out.2)⟩⟩
        exact World.rangeAt_setCells_same w4 (w.heap.size + 1) 2 [.slice ab nr cbb] (fun k hk => by obtain rfl : k = 0 := (by simpa using hk); have := there_up hT.2.2.2.1 (by omega) H4.out.2 2 (by decide); rw [Nat.zero_add] at this; exact this) 0 _ rfl
      generalize w4.setCell ⟨w.heap.size + 1, 2, none⟩ (.slice ab nr cbb) = w5 at *
      obtain ⟨c0, c1, c2, H5⟩ := H5
      clear H4 HS HG1 HSD
      go_wp2_with (with_reducible show wpList _ _ _ ({ dst := _, op := Op.store 71 (.tmp 2) _, type := _, pos := _, after := _, guard := _ } :: _) _ _; refine Shut.out ?_)
      show wpList _ _ _ _ _ _
      refine wpList_store_mid rfl _ _ _ rfl w.heap.size 0 #[.string nm, .int .u32 (hh : Int), .slice ab nr cbb] rfl rfl (by exact H5.out.1) infoR (by simp [Value.oneCell']) ?_
      simp only [Act.put]
      have hrg := World.rangeAt_setCells_same w5 w.heap.size 0 [.string nm, .int .u32 (hh : Int), .slice ab nr cbb] (by exact H5.out.1)
      have HUZ := Hid.of (show Sl (w5.setCells w.heap.size 0 [.string nm, .int .u32 (hh : Int), .slice ab nr cbb]) (.slice ab nr cbb) r4 ∧ (∀ b, (Value.slice ab nr cbb).ownBlock = some b → w.heap.size ≤ b ∧ b < (w5.setCells w.heap.size 0 [.string nm, .int .u32 (hh : Int), .slice ab nr cbb]).heap.size) ∧ Up w (w5.setCells w.heap.size 0 [.string nm, .int .u32 (hh : Int), .slice ab nr cbb]) from
        ⟨H5.out.2.1.setC (fun b' e => by have := (H5.out.2.2.1 b' e).1; omega), fun b hb => ⟨by have := (H5.out.2.2.1 b hb).1; omega, by rw [setCells_size]; exact (H5.out.2.2.1 b hb).2⟩, up_setCells (Nat.le_refl _) _ 0 H5.out.2.2.2⟩)
      generalize World.setCells w5 w.heap.size 0 [.string nm, .int .u32 (hh : Int), .slice ab nr cbb] = WZ at *
      go_wp2_with fail
      refine bodyPost_ret (result_cell1 Tryz.results30 _ _ w.heap.size [.string nm, .int .u32 (hh : Int), .slice ab nr cbb] rfl hrg Tryz.underlying71 rfl infoR) rfl ?_
      subst hnr
      refine ⟨⟨nm, hh, r4⟩, ab, cbb, rfl, ⟨⟨by rw [HHH.out]; exact h4_lt _, HNS.out, by have := HBL.out; simp only [List.length_cons] at this; simp only; omega⟩, fun x hx hxh hxs hl => ?_⟩, HUZ.out⟩
      obtain ⟨rfl, rfl⟩ := HLO.out x hx hl
      have hp := lo_parts hxs
      rw [← hl, HBR.out] at hp
      obtain ⟨hp1, hp2⟩ := hp
      injection hp2 with hp2 _
      have e1 : nm = x.name := ba_list7 (by rw [HNM.out.2, show 4 + x.name.size - (3 + 1) = x.name.size by omega]; exact hp1)
      have e2 : hh = x.hash := by rw [HHH.out, hp2, h4_hb4 hxh]
      have e3 : r4 = x.bytes := by
        have := congrArg (List.drop 4) hp2
        exact this
      rw [e1, e2, e3]
end Go.Proofs.YtaobnnlcfefodaaGreatDoor
namespace Go.Proofs.YtaobnnlcfefodaaGreatDoor
open Go.RowKit TextNum
/-- what was read of a tail: whole lines, each loosely taken, and a rest without an end -/
def Rd7 (tl : List UInt8) (ls : List (List UInt8)) (ss : List Sg) (rest : List UInt8) : Prop := tl = joinL ls ++ rest ∧ (10 : UInt8) ∉ rest ∧ (∀ x, x ∈ ls → (10 : UInt8) ∉ x) ∧ ss.length = ls.length ∧ ∀ k (h : k < ls.length) (h' : k < ss.length), Lo ls[k] ss[k]
theorem joinL_end : ∀ (ls : List (List UInt8)), ls = [] ∨ (joinL ls).getLast? = some 10
  | [] => .inl rfl
  | x :: r => .inr (joinL_last _ (by simp))
theorem rd7_one {m : List UInt8} {t : ByteArray} {ss ss' : List Sg} {ls : List (List UInt8)} {rest : List UInt8} {i : Nat} (hm : m.length ≤ 65536) (hb : bk m i) (hlast : ∀ j, i < j → ¬ bk m j) (hr : Rd7 (m.drop (i + 2)) ls ss' rest) (h : Spl m t ss) : t.data.toList = m.take (i + 1) ∧ ss' = ss := by
  obtain ⟨hL, hF, hfm, hhs⟩ := spl_fmt h hm
  obtain ⟨i', hb', hn', ht, hok, h0, hne, h16, hrd⟩ := h
  obtain rfl : i = i' := by
    rcases Nat.lt_trichotomy i i' with h | h | h
    · exact absurd hb' (hlast _ h)
    · exact h
    · exact absurd hb (hn' _ h)
  refine ⟨ht, ?_⟩
  obtain ⟨e1, e2⟩ := rdL_lines hrd
  have hj : joinL (linesOf (m.drop (i + 2))) = m.drop (i + 2) := by
    refine join_lines _ ?_
    unfold lnE at h0
    split at h0
    · cases h0
    · split at h0
      · assumption
      · cases h0
  obtain ⟨r1, r2, r3, r4, r5⟩ := hr
  have hrest : rest = [] := by
    rcases List.eq_nil_or_concat rest with h | ⟨q, y, h⟩
    · exact h
    · exfalso
      rw [r1, h] at hj
      rcases joinL_end (linesOf (m.drop (i + 2))) with hz | hz
      · rw [e1] at hz
        exact hne (by rw [e1]; exact hz)
      · rw [show joinL ls ++ q.concat y = (joinL ls ++ q) ++ [y] by simp] at hj
        have : (joinL (linesOf (m.drop (i + 2)))).getLast? = some y := by
          rw [show m.drop (i + 2) = joinL ls ++ q ++ [y] by rw [r1, h]; simp, hj]
          simp
        rw [hz] at this
        injection this with this
        exact r2 (by rw [h, ← this]; simp)
  have hls : linesOf (m.drop (i + 2)) = ls := by
    rw [r1, hrest, List.append_nil]
    exact lines_join _ r3
  rw [e1] at hls
  subst hls
  unfold Lng at hL
  simp only [not_or, Nat.not_lt] at hL
  have hn2 := hL.2
  unfold nlen at hn2
  rw [List.length_map] at r4
  refine List.ext_getElem r4 (fun k h1 h2 => ?_)
  have h3 := r5 k (by rw [List.length_map]; exact h2) h1
  rw [List.getElem_map] at h3
  have hmem := List.getElem_mem h2
  have := sgLen_le hmem
  exact h3.2 ss[k] (e2 _ hmem).1 (e2 _ hmem).2 (by omega) rfl
theorem bk_ext (s : ByteArray) (k : Nat) (h : k + 2 ≤ s.size) : s.extract k (k + 2) = ⟨#[10, 10]⟩ ↔ bk s.data.toList k := by
  have hs := Go.Lib.size_eq s
  have e : (s.extract k (k + 2)).data.toList = [s.data.toList[k]'(by omega), s.data.toList[k + 1]'(by omega)] := by
    rw [ByteArray.data_extract, Array.toList_extract, List.extract_eq_take_drop, show k + 2 - k = 2 by omega, List.drop_eq_getElem_cons (by omega), List.take_succ_cons, List.drop_eq_getElem_cons (by omega), List.take_succ_cons, List.take_zero]
  unfold bk
  rw [List.getElem?_eq_getElem (by omega), List.getElem?_eq_getElem (by omega), Option.some.injEq, Option.some.injEq]
  constructor
  · intro h1
    rw [h1] at e
    simp only [List.cons.injEq, and_true] at e
    exact ⟨e.1.symm, e.2.symm⟩
  · intro h1
    refine ba_list7 ?_
    rw [e, h1.1, h1.2]
theorem bk_ext7 (s : ByteArray) (k : Nat) (h : k + 2 ≤ s.size) : ((s.extract k (k + 2)).toList == [10, 10]) = true ↔ bk s.data.toList k := by
  rw [← bk_ext s k h, Go.Lib.toList_data, beq_iff_eq]
  constructor
  · intro h; exact ba_list7 h
  · intro h; rw [h]
/-- one more line -/
theorem joinL_snoc (ls : List (List UInt8)) (x : List UInt8) : joinL (ls ++ [x]) = joinL ls ++ (x ++ [10]) := by
  rw [joinL_app7]
  simp [joinL]
/-- how far the reading has come -/
def At7 (m : List UInt8) (b0 fr i : Nat) (ls : List (List UInt8)) (ss : List Sg) : Prop := b0 ≤ fr ∧ fr ≤ i ∧ (m.drop b0).take (fr - b0) = joinL ls ∧ (∀ j, fr ≤ j → j < i → m[j]? ≠ some 10) ∧ (∀ x, x ∈ ls → (10 : UInt8) ∉ x) ∧ ss.length = ls.length ∧ ls.length ≤ fr ∧ ∀ k (h : k < ls.length) (h' : k < ss.length), Lo ls[k] ss[k]
theorem at7_skip {m : List UInt8} {b0 fr i : Nat} {ls : List (List UInt8)} {ss : List Sg} (h : At7 m b0 fr i ls ss) (hi : m[i]? ≠ some 10) : At7 m b0 fr (i + 1) ls ss := by
  obtain ⟨h1, h2, h3, h4, h5⟩ := h
  refine ⟨h1, by omega, h3, fun j hj hj2 => ?_, h5⟩
  rcases Nat.lt_or_ge j i with h | h
  · exact h4 j hj h
  · obtain rfl : j = i := by omega
    exact hi
theorem no_mem {m : List UInt8} {fr i : Nat} (hi : i ≤ m.length) (h : ∀ j, fr ≤ j → j < i → m[j]? ≠ some 10) : (10 : UInt8) ∉ (m.drop fr).take (i - fr) := by
  intro hm
  obtain ⟨k, hk, e⟩ := List.getElem_of_mem hm
  rw [List.length_take, List.length_drop] at hk
  rw [List.getElem_take, List.getElem_drop] at e
  exact h (fr + k) (by omega) (by omega) (by rw [List.getElem?_eq_getElem (by omega), e])
theorem at7_line {m : List UInt8} {b0 fr i : Nat} {ls : List (List UInt8)} {ss : List Sg} (h : At7 m b0 fr i ls ss) (hi : m[i]? = some 10) {s : Sg} (hs : Lo ((m.drop fr).take (i - fr)) s) : At7 m b0 (i + 1) (i + 1) (ls ++ [(m.drop fr).take (i - fr)]) (ss ++ [s]) := by
  obtain ⟨h1, h2, h3, h4, h5, h6, h7, h8⟩ := h
  have hil := (List.getElem?_eq_some_iff.1 hi).1
  have hie := (List.getElem?_eq_some_iff.1 hi).2
  refine ⟨by omega, Nat.le_refl _, ?_, fun j a b => by omega, fun x hx => ?_, by simp [h6], by simp; omega, fun k hk hk' => ?_⟩
  · rw [joinL_snoc, ← h3]
    have e1 : (m.drop b0).take (i + 1 - b0) = (m.drop b0).take (fr - b0) ++ ((m.drop b0).drop (fr - b0)).take (i + 1 - fr) := by
      rw [show i + 1 - b0 = (fr - b0) + (i + 1 - fr) by omega, List.take_add]
    rw [e1, List.drop_drop, show b0 + (fr - b0) = fr by omega, show i + 1 - fr = (i - fr) + 1 by omega, List.take_succ_eq_append_getElem (by rw [List.length_drop]; omega), List.getElem_drop]
    congr 3
    rw [← hie]
    congr 1
    omega
  · rcases List.mem_append.1 hx with hx | hx
    · exact h5 x hx
    · obtain rfl := List.mem_singleton.1 hx
      exact no_mem (by omega) h4
  · rcases Nat.lt_or_ge k ls.length with hl | hl
    · rw [List.getElem_append_left hl, List.getElem_append_left (by omega)]
      exact h8 k hl (by omega)
    · have hk2 : k = ls.length := by simp at hk; omega
      subst hk2
      rw [List.getElem_append_right (Nat.le_refl _), List.getElem_append_right (by omega)]
      simp [h6]
      exact hs
theorem at7_end {m : List UInt8} {b0 fr : Nat} {ls : List (List UInt8)} {ss : List Sg} (h : At7 m b0 fr m.length ls ss) : Rd7 (m.drop b0) ls ss (m.drop fr) := by
  obtain ⟨h1, h2, h3, h4, h5, h6, h7, h8⟩ := h
  refine ⟨?_, ?_, h5, h6, h8⟩
  · rw [← h3]
    conv => lhs; rw [← List.take_append_drop (fr - b0) (m.drop b0), List.drop_drop, show b0 + (fr - b0) = fr by omega]
  · have := no_mem (Nat.le_refl _) h4
    rwa [List.take_of_length_le (by rw [List.length_drop]; omega)] at this
end Go.Proofs.YtaobnnlcfefodaaGreatDoor
namespace Go.Proofs.YtaobnnlcfefodaaGreatDoor
open Go.RowKit TextNum
set_option maxRecDepth 100000 in
theorem sgT2 : SgT 51 71 := sgT_of Tryz.underlying51 (by kernel_rfl)
theorem fr_zero8 {t : ByteArray} {ss : List Sg} {er : Int} (h : FR t ss er) (h1 : ¬ Lng t ss) (h2 : Fine t ss) : er = 0 := by
  rcases h with ⟨_, h⟩ | ⟨_, _, h⟩ | ⟨h, _⟩
  · exact absurd h h1
  · exact absurd h2 h
  · exact h
theorem fr_fine8 {t : ByteArray} {ss : List Sg} (h : FR t ss 0) : ¬ Lng t ss ∧ Fine t ss := by
  rcases h with ⟨h, _⟩ | ⟨h, _⟩ | ⟨_, h⟩
  · cases h
  · cases h
  · exact h
theorem mem_join {x : List UInt8} : ∀ {xs : List (List UInt8)}, x ∈ xs → x.length ≤ (joinL xs).length
  | y :: r, h => by
    rw [joinL_cons, List.length_append, List.length_cons]
    rcases List.mem_cons.1 h with rfl | h
    · omega
    · have := mem_join h; omega
theorem sget10 (s : ByteArray) (i : Nat) (h : i < s.size) : (s.data.toList[i]? = some 10) ↔ ((s[i].toNat : Int) = 10) := by
  rw [sget' s i h, List.getElem?_eq_getElem (by rw [← Go.Lib.size_eq]; exact h), Option.some.injEq]
  constructor
  · intro h; rw [h]; rfl
  · intro h; apply UInt8.toNat_inj.1; have : (10 : UInt8).toNat = 10 := rfl; omega
def SA3 (m : List UInt8) (w : World) (e : Ending) (w' : World) : Prop := ∃ t v qs er, e = .returned (.tuple #[.string t, v, .int .i64 er]) ∧ SR m t (qs.map (·.1)) er ∧ OwnG w' w.heap.size 71 v qs ∧ (∀ q, q ∈ qs → ∀ b, (qv q).ownBlock = some b → w.heap.size ≤ b) ∧ Up w w' ∧ (er ≠ 0 → t = ⟨#[]⟩ ∧ v = .slice none 0 0 ∧ qs = [])
set_option maxRecDepth 100000 in
set_option maxHeartbeats 4000000 in
theorem RSplit_walk (v : Value) (m : List UInt8) (w : World) (hS : Sl w v m) (hT : BTab w) :
    Calls Tryz.prog 17 #[v] w (SA3 m w) := by
  have HT := Hid.of hT
  have HC := Hid.of (conv_sl hS)
  clear hT
  obtain ⟨a, c, rfl, hc, hS⟩ := hS
  obtain ⟨n, hn⟩ : ∃ n, m.length = n := ⟨_, rfl⟩
  rw [hn] at hc HC ⊢
  clear hS
  go_enter Tryz.func17, Tryz.ntmps17
  by_cases hL : 65536 < n
  · have hL' : (65536 : Int) < (n : Int) := by omega
    go_wp2
    go_ret3
    exact ⟨_, _, [], _, rfl, .inl ⟨rfl, by omega⟩, ownG_nil7 _ _ _, by simp, Up.refl _, fun _ => ⟨rfl, rfl, rfl⟩⟩
  have hL' : ¬ (65536 : Int) < (n : Int) := by omega
  have hcv := HC.out
  obtain ⟨s, HS⟩ : ∃ s : ByteArray, Hid (vs m = .string s ∧ s.data.toList = m) := ⟨⟨m.toArray⟩, Hid.of ⟨rfl, rfl⟩⟩
  rw [HS.out.1] at hcv
  have hsz : s.size = n := by rw [Go.Lib.size_eq, HS.out.2, hn]
  have hw0 : IntKind.i64.wrap ((n : Int) - 2) = (n : Int) - 2 := by simp only [IntKind.wrap, IntKind.signed, IntKind.bits]; simp; omega
  have HB := Hid.of (fun k h => bk_ext7 s k h)
  have HG := Hid.of (fun i h => sget10 s i h)
  rw [HS.out.2] at HG
  rw [HS.out.2] at HB
  go_wp2
  clear hcv
  go_loopw [6] (fun v6 wr => ∃ z : Int, v6 = .int .i64 z ∧ z ≤ (n : Int) - 2 ∧ -2 ≤ z ∧ Hid (∀ j : Nat, z < (j : Int) → ¬ bk m j) ∧ wr = w) (fun v6 _ => (intOf v6 + 3).toNat)
  case atStart => exact ⟨(n : Int) - 2, rfl, by omega, by omega, Hid.of (fun j hj hb => by have := (List.getElem?_eq_some_iff.1 hb.2).1; omega), rfl⟩
  case round =>
    obtain ⟨z, rfl, hz1, hz2, hI, hwr⟩ := hrel
    obtain rfl : w = wr := hwr.symm
    clear hwr
    by_cases hz : 0 ≤ z
    rotate_left
    · have hz' : z < 0 := by omega
      have HN := Hid.of (show ¬ ∃ t ss, Spl m t ss from fun ⟨t, ss, i, hb, _⟩ => hI.out i (by omega) hb)
      go_wp2
      go_ret3
      exact ⟨_, _, [], _, rfl, .inr (.inl ⟨rfl, by omega, HN.out⟩), ownG_nil7 _ _ _, by simp, Up.refl _, fun _ => ⟨rfl, rfl, rfl⟩⟩
    obtain ⟨k, rfl⟩ := Int.eq_ofNat_of_zero_le hz
    have hk2 : k + 2 ≤ n := by omega
    have hw2 : IntKind.i64.wrap ((k : Int) + 2) = ((k + 2 : Nat) : Int) := by simp only [IntKind.wrap, IntKind.signed, IntKind.bits]; simp; omega
    have hkk : (k : Int) ≤ ((k + 2 : Nat) : Int) := by omega
    have hkn : ((k + 2 : Nat) : Int) ≤ (n : Int) := by omega
    cases hb : ((s.extract k (k + 2)).toList == [10, 10]) with
    | false =>
      have HN := Hid.of (show ∀ j : Nat, (k : Int) - 1 < (j : Int) → ¬ bk m j from fun j hj hbk => by
        rcases Nat.lt_or_ge k j with h | h
        · exact hI.out j (by omega) hbk
        · obtain rfl : j = k := by omega
          have := (HB.out j (by omega)).2 hbk
          rw [hb] at this
          cases this)
      go_wp2
      exact ⟨⟨(k : Int) - 1, rfl, by omega, by omega, HN, by simp⟩, by simp [intOf]; omega⟩
    | true =>
      have HBK := Hid.of (show bk m k ∧ ∀ j, k < j → ¬ bk m j from ⟨(HB.out k (by omega)).1 hb, fun j hj => hI.out j (by omega)⟩)
      clear HB hI
      go_wp2
      clear hb hkk hkn hz2 hz1
      go_loopw [7, 8, 9] (fun v7 v8 v9 wr => ∃ fr i : Nat, v8 = .int .i64 (fr : Int) ∧ v9 = .int .i64 (i : Int) ∧ i ≤ n ∧ fr ≤ i ∧ Hid (∃ ls qs, OwnG wr w.heap.size 71 v7 qs ∧ At7 m (k + 2) fr i ls (qs.map (·.1)) ∧ Up w wr ∧ ∀ q, q ∈ qs → ∀ b, (qv q).ownBlock = some b → w.heap.size ≤ b)) (fun _ _ v9 _ => n - (intOf v9).toNat)
      case atStart => exact ⟨k + 2, k + 2, by go_num, by go_num, by omega, Nat.le_refl _, [], [], ownG_nil7 _ _ _, ⟨Nat.le_refl _, Nat.le_refl _, by simp [joinL], fun j a b => by omega, by simp, rfl, Nat.zero_le _, fun j h => absurd h (Nat.not_lt_zero _)⟩, Up.refl _, by simp⟩
      case round =>
        obtain ⟨fr, i, rfl, rfl, hi, hfi, hI⟩ := hrel
        obtain ⟨ls, qs, hI1, hI2, hI3, hI4⟩ := hI.out
        have HI := Hid.of (And.intro hI1 (And.intro hI2 hI3))
        have HLB := Hid.of hI4
        clear hI hI1 hI2 hI3 hI4
        by_cases hlt : i < n
        · have hlt' : (i : Int) < (n : Int) := by omega
          have hlts : i < s.size := by omega
          by_cases hx : ((s[i]'hlts).toNat : Int) = 10
          rotate_left
          · have HN := Hid.of (at7_skip HI.out.2.1 (fun h => hx ((HG.out i hlts).1 h)))
            go_wp2
            go_roundw
            case rel => exact ⟨fr, i + 1, rfl, by go_num, by omega, by omega, ls, qs, HI.out.1, HN.out, HI.out.2.2, HLB.out⟩
            case measure => simp [intOf]; omega
          have H10 := Hid.of ((HG.out i hlts).2 hx)
          have hfi' : (fr : Int) ≤ (i : Int) := by omega
          have hin' : (i : Int) ≤ (n : Int) := by omega
          go_wp2_with fail
          obtain ⟨sl, HSL⟩ : ∃ sl, Hid (s.extract fr i = sl ∧ sl.data.toList = (m.drop fr).take (i - fr)) := ⟨_, Hid.of ⟨rfl, by rw [ByteArray.data_extract, Array.toList_extract, List.extract_eq_take_drop, HS.out.2]⟩⟩
          rw [HSL.out.1]
          clear hx
          refine (loose_walk sl (by rw [Go.Lib.size_eq, HSL.out.2, List.length_take]; omega) wr).mono ?_
          rintro e w3 ⟨y, a3, c3, rfl, hlo, hs3, hb3, u3⟩
          rw [HSL.out.2] at hlo
          have H3 := Hid.of (And.intro (at7_line HI.out.2.1 H10.out hlo) (And.intro hs3 (And.intro hb3 u3)))
          clear hlo hs3 hb3 u3
          obtain ⟨nb, hnb⟩ : ∃ nb, y.bytes.length = nb := ⟨_, rfl⟩
          rw [hnb]
          dsimp only
          go_wp2_with (with_reducible show wpList _ _ _ ({ dst := _, op := Op.call { callee := Callee.builtin Builtin.append, args := _, argTypes := _ }, type := _, pos := _, after := _, guard := _ } :: _) _ _; refine Shut.out ?_)
          show wpList _ _ _ _ _ _
          subst hnb
          have UU := Hid.of ((Up.refl w3).alloc (.cells #[.string y.name, .int .u32 (y.hash : Int), .slice a3 y.bytes.length c3] 71))
          refine wpList_appG sgT2 rfl _ _ rfl w.heap.size _ qs (y, a3, c3) rfl (by exact (HI.out.1.up H3.out.2.2.2).up UU.out) ⟨w3.heap.size, 0, none⟩ 1 rfl ?_ (by exact H3.out.2.1.up UU.out) ?_ (by have h1 := HI.out.2.1.2.2.2.2.2.1; have h2 := HI.out.2.1.2.2.2.2.2.2.1; rw [List.length_map] at h1; omega) (Nat.le_trans (HI.out.2.2.trans H3.out.2.2.2).size UU.out.size) ?_
          · intro j u hj
            exact cells_new w3 71 (qc (y, a3, c3)) j u hj
          · intro b hb
            have h1 := H3.out.2.2.1 b hb
            refine ⟨Nat.lt_of_lt_of_le h1.2 UU.out.size, fun h2 => ?_⟩
            have := (World.ownsRow.lt HI.out.1.1 b h2).2
            omega
          intro v7 w7 hO7 b7
          simp only [Act.put, List.setIfInBounds_toArray, List.set_cons_zero, List.set_cons_succ]
          have HN := Hid.of (show ∃ ls qs, OwnG w7 w.heap.size 71 v7 qs ∧ At7 m (k + 2) (i + 1) (i + 1) ls (qs.map (·.1)) ∧ Up w w7 ∧ ∀ q, q ∈ qs → ∀ b, (qv q).ownBlock = some b → w.heap.size ≤ b from ⟨_, qs ++ [(y, a3, c3)], hO7, by rw [List.map_append]; exact H3.out.1, ((HI.out.2.2.trans H3.out.2.2.2).trans UU.out).step (Nat.le_refl _) b7, fun q hq b hb => by
            rcases List.mem_append.1 hq with hq | hq
            · exact HLB.out q hq b hb
            · obtain rfl := List.mem_singleton.1 hq
              exact Nat.le_trans HI.out.2.2.size (H3.out.2.2.1 b hb).1⟩)
          clear hO7 b7 UU H3
          generalize y.bytes.length = nb
          go_wp2
          go_roundw
          case rel => exact ⟨i + 1, i + 1, by go_num, by go_num, by omega, Nat.le_refl _, HN⟩
          case measure => simp [intOf]; omega
        · have hlt' : ¬ (i : Int) < (n : Int) := by omega
          have hin : i = m.length := by omega
          have HE := Hid.of (at7_end (by rw [← hin]; exact HI.out.2.1))
          clear hin
          have hw1 : IntKind.i64.wrap ((k : Int) + 1) = ((k + 1 : Nat) : Int) := by simp only [IntKind.wrap, IntKind.signed, IntKind.bits]; simp; omega
          have hk1 : ((k + 1 : Nat) : Int) ≤ (n : Int) := by omega
          go_wp2_with fail
          obtain ⟨t, HTT⟩ : ∃ t, Hid (s.extract 0 (k + 1) = t ∧ t.data.toList = m.take (k + 1)) := ⟨_, Hid.of ⟨rfl, by rw [ByteArray.data_extract, Array.toList_extract, List.extract_eq_take_drop, HS.out.2]; simp⟩⟩
          rw [HTT.out.1]
          have HLo := Hid.of (show ∀ x, x ∈ qs.map (·.1) → x.hash < 4294967296 ∧ x.name.size ≤ 65536 ∧ x.bytes.length ≤ 65536 from fun x hx => by
            obtain ⟨q, hq, e⟩ := List.getElem_of_mem hx
            obtain ⟨h1, h2, h3, h4, h5, h6, h7, h8⟩ := HI.out.2.1
            have h9 := (h8 q (by omega) hq).1
            rw [e] at h9
            have h10 : (ls[q]'(by omega)).length ≤ 65536 := by
              have h11 : (ls[q]'(by omega)).length ≤ (joinL ls).length := mem_join (List.getElem_mem _)
              rw [← h3, List.length_take, List.length_drop] at h11
              omega
            exact ⟨h9.1, by omega, by omega⟩)
          refine (RFmtN_walk t (by rw [Go.Lib.size_eq, HTT.out.2, List.length_take]; omega) u7 (qs.map (·.1)) wr HI.out.1.sigL (fun x hx => by have := HLo.out x hx; omega) (fun x hx => (HLo.out x hx).1) (BTab_up HT.out HI.out.2.2)).mono ?_
          rintro e w8 ⟨v8, er, rfl, hfr, hsl, hnil, u8⟩
          have H8 := Hid.of (And.intro hfr (And.intro hsl (And.intro (HI.out.2.2.trans u8) (HI.out.1.up u8))))
          clear hsl u8
          have HSp := Hid.of (show (∃ t ss, Spl m t ss) → er = 0 ∧ fmtN t.data.toList (qs.map (·.1)) = m from fun ⟨t', ss', h⟩ => by
            obtain ⟨e1, e2⟩ := rd7_one (by omega) HBK.out.1 HBK.out.2 HE.out h
            obtain rfl : t = t' := ba_list7 (HTT.out.2.trans e1.symm)
            obtain ⟨g1, g2, g3, _⟩ := spl_fmt h (by omega)
            subst e2
            exact ⟨fr_zero8 hfr g1 g2, g3⟩)
          dsimp only
          by_cases her : er = 0
          rotate_left
          · have her' : (er == 0) = false := by simpa using her
            obtain rfl := hnil her
            have HN := Hid.of (show ¬ ∃ t ss, Spl m t ss from fun h => her (HSp.out h).1)
            replace H8 := Hid.of H8.out.2.2.1
            clear hfr hnil HSp
            go_wp2
            go_ret3
            exact ⟨_, _, [], _, rfl, .inr (.inl ⟨rfl, by omega, HN.out⟩), ownG_nil7 _ _ _, by simp, H8.out, fun _ => ⟨rfl, rfl, rfl⟩⟩
          subst her
          have hcv := conv_sl (H8.out.2.1 rfl)
          obtain ⟨q, HQ⟩ : ∃ q : ByteArray, Hid (vs (fmtN t.data.toList (qs.map (·.1))) = .string q ∧ q.data.toList = fmtN t.data.toList (qs.map (·.1))) := ⟨⟨(fmtN t.data.toList (qs.map (·.1))).toArray⟩, Hid.of ⟨rfl, rfl⟩⟩
          rw [HQ.out.1] at hcv
          have HFF := Hid.of (fr_fine8 hfr)
          obtain ⟨a8, c8, hv8⟩ : ∃ a8 c8, v8 = .slice a8 (fmtN t.data.toList (qs.map (·.1))).length c8 := by
            obtain ⟨a8, c8, e, _⟩ := H8.out.2.1 rfl
            exact ⟨a8, c8, e⟩
          subst hv8
          generalize (fmtN t.data.toList (qs.map (·.1))).length = n8 at *
          clear hfr hnil
          replace H8 := Hid.of H8.out.2.2
          by_cases hq : q = s
          · have HSP := Hid.of (show Spl m t (qs.map (·.1)) from by
              have h1 := (split_fmt HFF.out.1 HFF.out.2 (fun x hx => (HLo.out x hx).1)).1
              rwa [← HQ.out.2, hq, HS.out.2] at h1)
            subst hq
            go_wp2
            go_ret3
            exact ⟨t, _, qs, 0, by rw [← HTT.out.1]; rfl, .inr (.inr ⟨rfl, by omega, HSP.out⟩), by exact H8.out.2, HLB.out, H8.out.1, fun h => absurd rfl h⟩
          · have hq' : (q.toList == s.toList) = false := by
              rw [Go.Lib.toList_data, Go.Lib.toList_data, beq_eq_false_iff_ne]
              exact fun e => hq (ba_list7 e)
            have HN := Hid.of (show ¬ ∃ t ss, Spl m t ss from fun h => hq (ba_list7 (by rw [HQ.out.2, (HSp.out h).2, HS.out.2])))
            clear hq
            go_wp2
            go_ret3
            exact ⟨_, _, [], _, rfl, .inr (.inl ⟨rfl, by omega, HN.out⟩), ownG_nil7 _ _ _, by simp, H8.out.1, fun _ => ⟨rfl, rfl, rfl⟩⟩
end Go.Proofs.YtaobnnlcfefodaaGreatDoor
