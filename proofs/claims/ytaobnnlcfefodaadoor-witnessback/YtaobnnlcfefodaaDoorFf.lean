import Derived.Test.YtaobnnlcfefodaaDoorFe
import Derived.Test.YtaobnnlcfefodaaDoorGv
import Derived.Test.YtaobnnlcfefodaaDoorHq
import Derived.Test.YtaobnnlcfefodaaDoorLx
import Derived.Test.YtaobnnlcfefodaaDoorSl
import Derived.Shelf.Small.Wraps
import Derived.Laws.Cover3
import Derived.Deep.MidRow
import Derived.Deep.RegionHeld3
namespace Go.Proofs.YtaobnnlcfefodaaDoor
open Go.RowKit TextNum
theorem trim_pre {l : List UInt8} (h : Go.Lib.hasPrefix l MK = true) : Go.Lib.trimPrefix l MK = l.drop 4 := by
  unfold Go.Lib.trimPrefix
  rw [if_pos h]
  rfl
def zs : List Value := [.string ⟨#[]⟩, .int .u32 0, .slice none 0 0]
theorem zs_one : ∀ v, v ∈ zs → v.oneCell' = true := by
  intro v hv
  simp only [zs, List.mem_cons, List.not_mem_nil, or_false] at hv
  rcases hv with rfl | rfl | rfl <;> rfl
theorem five : ∀ {l : List UInt8}, 4 < l.length → ∃ x0 x1 x2 x3 x4 r5, l = x0 :: x1 :: x2 :: x3 :: x4 :: r5
  | x0 :: x1 :: x2 :: x3 :: x4 :: r5, _ => ⟨x0, x1, x2, x3, x4, r5, rfl⟩
theorem infoS : (Tryd.prog.info? 76).map (·.size) = some 3 := by kernel_rfl
theorem setCells_size (b : Nat) : ∀ (vs : List Value) (o : Nat) (w : World), (w.setCells b o vs).heap.size = w.heap.size
  | [], _, _ => rfl
  | v :: r, o, w => by
    show ((w.setCell ⟨b, o, none⟩ v).setCells b (o + 1) r).heap.size = _
    rw [setCells_size b r (o + 1)]
    simp
theorem sl_setCells {w : World} {g nl cv b : Nat} {l : List UInt8} {vs : List Value} (h : Sl w (.slice (some ⟨g, 0, none⟩) nl cv) l) (hne : g ≠ b) : Sl (w.setCells b 0 vs) (.slice (some ⟨g, 0, none⟩) nl cv) l := by
  obtain ⟨a, c, e, hc, h⟩ := h
  refine ⟨a, c, e, hc, ?_⟩
  rcases h with h | ⟨b', off, e2, hb, h⟩
  · exact .inl h
  · obtain rfl : g = b' := by
      injection e with e1 _ _
      rw [e2] at e1
      injection e1 with e1
      injection e1
    exact .inr ⟨g, off, e2, by rw [setCells_size]; exact hb, fun i hi => (World.cell?_setCells_out _ _ _ _ _ (fun e => absurd e hne)).trans (h i hi)⟩
/-- what readSigLine answers -/
def RA (l : List UInt8) (w : World) (e : Ending) (w' : World) : Prop :=
  (rdS l = none ∧ e = .returned (.tuple #[.agg #[.string ⟨#[]⟩, .int .u32 0, .slice none 0 0], .bool false]) ∧ Up w w') ∨
  ∃ x a c, rdS l = some x ∧ e = .returned (.tuple #[.agg #[.string x.name, .int .u32 (x.hash : Int), .slice a x.bytes.length c], .bool true]) ∧ Sl w' (.slice a x.bytes.length c) x.bytes ∧ (∀ b, (Value.slice a x.bytes.length c).ownBlock = some b → w.heap.size ≤ b ∧ b < w'.heap.size) ∧ Up w w' ∧ OwnN w' w.heap.size (.slice a x.bytes.length c) x.bytes
set_option maxRecDepth 100000 in
set_option maxHeartbeats 2000000 in
theorem readSigLine_walk (s : ByteArray) (hs : s.size ≤ 1048576) (w : World) (hT : TabL w) (hW : Go.Lib.WhiteTab 5 w) :
    Calls Tryd.prog 36 #[.string s] w (RA s.data.toList w) := by
  have HT := Hid.of hT
  have HW := Hid.of hW
  clear hT hW
  go_enter Tryd.func36, Tryd.ntmps36
  go_wp2_with fail
  refine (Any.strings_CutPrefix Tryd.lays103 s ⟨#[226, 128, 148, 32]⟩ _).mono ?_
  rintro e w' ⟨rfl, hw⟩
  obtain rfl := hw.symm
  rw [show (⟨#[226, 128, 148, 32]⟩ : ByteArray).data.toList = MK from rfl]
  by_cases hp : Go.Lib.hasPrefix s.data.toList MK = true
  rotate_left
  · have hp0 : Go.Lib.hasPrefix s.data.toList MK = false := by simpa using hp
    have HR := Hid.of (show rdS s.data.toList = none by unfold rdS; rw [if_neg hp])
    rw [hp0]
    clear hp hp0
    generalize (Go.Lib.trimPrefix s.data.toList MK) = tr
    dsimp only
    go_wp2
    refine bodyPost_ret (result_cell_tmp Tryd.results36 _ _ w.heap.size zs _ rfl rfl (fun j v hv => ?_) Tryd.underlying76 rfl infoS) rfl ?_
    · rw [World.cell?_alloc_at _ _ _ _ rfl, Nat.zero_add]; simpa [zs] using hv
    · exact .inl ⟨HR.out, rfl, (Up.refl w).alloc _⟩
  have HR := Hid.of (show rdS s.data.toList = _ by unfold rdS; rw [if_pos hp])
  rw [hp, trim_pre hp]
  clear hp
  have hrs : (s.data.toList.drop 4).length ≤ 1048576 := by rw [List.length_drop, ← Go.Lib.size_eq]; omega
  generalize s.data.toList.drop 4 = r at *
  generalize s.data.toList = l at *
  dsimp only
  go_wp2_with fail
  have hu0 := (Up.refl w).alloc (Obj.cells zs.toArray 76)
  have ht0 := there_new w zs 76
  have hz0 : w.heap.size < (w.alloc (Obj.cells zs.toArray 76)).heap.size := by rw [World.alloc]; simp
  change Calls _ _ _ (w.alloc (Obj.cells zs.toArray 76)) _
  generalize w.alloc (Obj.cells zs.toArray 76) = w0 at *
  refine (Cut1_walk ⟨r.toArray⟩ (by rw [Go.Lib.size_eq]; simpa using hrs) 32 _).mono ?_
  rintro e w1 ⟨rfl, n1, rfl⟩
  have hu1 : Up w (w0.drewN n1) := hu0.drewN n1
  have ht1 : (w0.drewN n1).there w.heap.size 0 3 := there_up ht0 hz0 ((Up.refl _).drewN n1)
  have hz1 : w.heap.size < (w0.drewN n1).heap.size := hz0
  generalize w0.drewN n1 = w1 at *
  clear hu0 ht0 hz0 hrs
  rw [show (⟨r.toArray⟩ : ByteArray).data.toList = r from rfl]
  generalize Go.Lib.cut r [32] = ct at *
  obtain ⟨nm, cd, fl⟩ := ct
  dsimp only at HR ⊢
  have H1 := Hid.of (And.intro hu1 (And.intro ht1 hz1))
  clear hu1 ht1 hz1
  go_wp2_with fail
  refine (DecodeBase64_walk ⟨cd.toArray⟩ w1 (HT.out.up H1.out.1)).mono ?_
  rintro e w2 ⟨v2, rfl, hO, u2⟩
  have H2 := Hid.of (show w2.there w.heap.size 0 3 ∧ Up w w2 ∧ w.heap.size < w2.heap.size from ⟨there_up H1.out.2.1 H1.out.2.2 u2, H1.out.1.trans u2, Nat.lt_of_lt_of_le H1.out.2.2 u2.size⟩)
  have HO := Hid.of (hO.base (Nat.succ_le_of_lt H1.out.2.2))
  clear u2 hO H1
  rw [show (⟨cd.toArray⟩ : ByteArray).data.toList = cd from rfl] at HO ⊢
  generalize b64R cd = br at *
  obtain ⟨bl, be⟩ := br
  dsimp only at HO HR ⊢
  obtain ⟨av, cv, rfl⟩ := HO.out.len
  generalize hnl : bl.length = nl at *
  go_wp2_with fail
  refine (CheckName_walk ⟨nm.toArray⟩ w2 (WhiteTab_up HW.out H2.out.2.1)).mono ?_
  rintro e w3 ⟨rfl, u3⟩
  have H3 := Hid.of (show w3.there w.heap.size 0 3 ∧ Up w w3 from ⟨there_up H2.out.1 H2.out.2.2 u3, H2.out.2.1.trans u3⟩)
  have HO3 := Hid.of (HO.out.below u3)
  have hz3 : w.heap.size < w3.heap.size := Nat.lt_of_lt_of_le H2.out.2.2 u3.size
  clear u3 H2 HO
  dsimp only
  generalize (⟨nm.toArray⟩ : ByteArray) = name at *
  rcases name_val name with hn | hn
  rotate_left
  · have HR := Hid.of (show rdS l = none by rw [HR.out, if_pos (.inl (by rw [hn]; decide))])
    rw [hn]
    go_wp2_with (with_reducible show wpList _ _ _ ({ dst := _, op := Op.store 76 (.tmp 2) _, type := _, pos := _, after := _, guard := _ } :: _) _ _; refine Shut.out ?_)
    show wpList _ _ _ _ _ _
    refine wpList_store_mid rfl _ _ _ rfl w.heap.size 0 zs.toArray rfl rfl (by exact H3.out.1) infoS (all_oneCell_toArray zs_one) ?_
    simp only [Act.put]
    have hrg : (World.setCells w3 w.heap.size 0 zs.toArray.toList).rangeAt w.heap.size 0 zs := World.rangeAt_setCells_same _ _ _ _ (by exact H3.out.1)
    have HUZ := Hid.of (up_setCells (Nat.le_refl _) zs.toArray.toList 0 H3.out.2)
    generalize World.setCells w3 w.heap.size 0 zs.toArray.toList = WZ at *
    go_wp2_with fail
    refine bodyPost_ret (result_cell_tmp Tryd.results36 _ _ w.heap.size zs _ rfl rfl hrg Tryd.underlying76 rfl infoS) rfl ?_
    exact .inl ⟨HR.out, rfl, HUZ.out⟩
  have hn0 := hn
  rw [hn] at HR ⊢
  by_cases hbe : be = 0
  rotate_left
  · have hbe' : (be == 0) = false := by simpa using hbe
    have HR := Hid.of (show rdS l = none by rw [HR.out, if_pos (.inr (.inl hbe))])
    go_wp2_with (with_reducible show wpList _ _ _ ({ dst := _, op := Op.store 76 (.tmp 2) _, type := _, pos := _, after := _, guard := _ } :: _) _ _; refine Shut.out ?_)
    show wpList _ _ _ _ _ _
    refine wpList_store_mid rfl _ _ _ rfl w.heap.size 0 zs.toArray rfl rfl (by exact H3.out.1) infoS (all_oneCell_toArray zs_one) ?_
    simp only [Act.put]
    have hrg : (World.setCells w3 w.heap.size 0 zs.toArray.toList).rangeAt w.heap.size 0 zs := World.rangeAt_setCells_same _ _ _ _ (by exact H3.out.1)
    have HUZ := Hid.of (up_setCells (Nat.le_refl _) zs.toArray.toList 0 H3.out.2)
    generalize World.setCells w3 w.heap.size 0 zs.toArray.toList = WZ at *
    go_wp2_with fail
    refine bodyPost_ret (result_cell_tmp Tryd.results36 _ _ w.heap.size zs _ rfl rfl hrg Tryd.underlying76 rfl infoS) rfl ?_
    exact .inl ⟨HR.out, rfl, HUZ.out⟩
  subst hbe
  by_cases hn4 : nl ≤ 4
  · have hn4' : (nl : Int) ≤ 4 := by omega
    have HR := Hid.of (show rdS l = none by rw [HR.out, if_pos (.inr (.inr hn4))])
    clear hn4
    go_wp2_with (with_reducible show wpList _ _ _ ({ dst := _, op := Op.store 76 (.tmp 2) _, type := _, pos := _, after := _, guard := _ } :: _) _ _; refine Shut.out ?_)
    show wpList _ _ _ _ _ _
    refine wpList_store_mid rfl _ _ _ rfl w.heap.size 0 zs.toArray rfl rfl (by exact H3.out.1) infoS (all_oneCell_toArray zs_one) ?_
    simp only [Act.put]
    have hrg : (World.setCells w3 w.heap.size 0 zs.toArray.toList).rangeAt w.heap.size 0 zs := World.rangeAt_setCells_same _ _ _ _ (by exact H3.out.1)
    have HUZ := Hid.of (up_setCells (Nat.le_refl _) zs.toArray.toList 0 H3.out.2)
    generalize World.setCells w3 w.heap.size 0 zs.toArray.toList = WZ at *
    go_wp2_with fail
    refine bodyPost_ret (result_cell_tmp Tryd.results36 _ _ w.heap.size zs _ rfl rfl hrg Tryd.underlying76 rfl infoS) rfl ?_
    exact .inl ⟨HR.out, rfl, HUZ.out⟩
  have hn4' : ¬ (nl : Int) ≤ 4 := by omega
  replace HR := Hid.of (HR.out.trans (if_neg (by rintro (h | h | h) <;> first | exact h rfl | exact hn4 h)))
  obtain ⟨x0, x1, x2, x3, x4, r5, rfl⟩ : ∃ x0 x1 x2 x3 x4 r5, bl = x0 :: x1 :: x2 :: x3 :: x4 :: r5 := five (by omega)
  rw [List.drop_succ_cons, List.drop_succ_cons, List.drop_succ_cons, List.drop_succ_cons, List.drop_zero] at HR
  obtain ⟨g, rfl, hg0, hgl, hc0, hc1, hc2, hc3⟩ : ∃ g, av = some ⟨g, 0, none⟩ ∧ w.heap.size < g ∧ g < w3.heap.size ∧ w3.cell? ⟨g, 0, none⟩ = some (.int .u8 (x0.toNat : Int)) ∧ w3.cell? ⟨g, 1, none⟩ = some (.int .u8 (x1.toNat : Int)) ∧ w3.cell? ⟨g, 2, none⟩ = some (.int .u8 (x2.toNat : Int)) ∧ w3.cell? ⟨g, 3, none⟩ = some (.int .u8 (x3.toNat : Int)) := by
    rcases HO3.out.2 with ⟨e, _⟩ | ⟨g, cap, cur, e, hb, hg, _⟩
    · injection e with _ e2 _
      omega
    · injection e with e1 _ _
      have hcs := World.ownsRow.cells HO3.out (g := g) (by rw [e1]; rfl)
      refine ⟨g, e1, hb, (Array.getElem?_eq_some_iff.1 hg).1, ?_, ?_, ?_, ?_⟩
      · exact hcs 0 _ rfl
      · exact hcs 1 _ rfl
      · exact hcs 2 _ rfl
      · exact hcs 3 _ rfl
  have hsl : OwnN w3 w.heap.size (.slice (some ⟨g, 0, none⟩) nl cv) (x0 :: x1 :: x2 :: x3 :: x4 :: r5) := (HO3.out.base (Nat.le_succ _)).n (by simp)
  have har : ∀ w0, (Instr.arrayAt 99 (.slice (some ⟨g, 0, none⟩) nl cv)).run Tryd.prog w0 = .ok (.pointer (some ⟨g, 0, none⟩)) w0 := fun w0 => run_arrayAt w0 99 _ 4 _ nl cv Tryd.underlying99 (by omega)
  clear HO3
  have hgne : g ≠ w.heap.size := by omega
  go_wp2_with fail
  refine wp_region_held_drew (S := fun w2 => (w2.cell? ⟨g, 0, none⟩ = some (.int .u8 (x0.toNat : Int)) ∧ w2.cell? ⟨g, 1, none⟩ = some (.int .u8 (x1.toNat : Int)) ∧ w2.cell? ⟨g, 2, none⟩ = some (.int .u8 (x2.toNat : Int)) ∧ w2.cell? ⟨g, 3, none⟩ = some (.int .u8 (x3.toNat : Int))) ∧ w2.there w.heap.size 0 3 ∧ OwnN w2 w.heap.size (.slice (some ⟨g, 0, none⟩) nl cv) (x0 :: x1 :: x2 :: x3 :: x4 :: r5) ∧ Up w w2 ∧ w.heap.size < w2.heap.size) (by kernel_rfl) ⟨⟨hc0, hc1, hc2, hc3⟩, H3.out.1, hsl.up (Up.refl w3).drew, H3.out.2.drew, hz3⟩ (fun hS => ?_)
  clear hc0 hc1 hc2 hc3 hsl H3 hz3
  obtain ⟨sa, sn, sc, HSD⟩ : ∃ sa sn sc, Hid (sliced (some ⟨g, 0, none⟩) 4 nl cv 1 = .slice sa sn sc) := ⟨_, _, _, Hid.of rfl⟩
  refine wpAnyH_take (i := 0) (oi := { dst := some 43, op := Go.Op.move (Go.Operand.tmp 6), type := 9, pos := "note.go:116", after := #[], guard := none }) (v := .string name) rfl (by kernel_rfl) (by kernel_rfl) (by kernel_rfl) (fun _ _ _ h => h) (Or.inl ⟨by kernel_rfl, ?_⟩) hS ?_
  · intro w5 hSw
    clear hSw hS
    go_simp
  simp only [Act.put, List.setIfInBounds_toArray, List.set_cons_zero, List.set_cons_succ]
  refine wpAnyH_take (i := 1) (oi := { dst := some 44, op := Go.Op.move (Go.Operand.tmp 9), type := 23, pos := "note.go:116", after := #[], guard := none }) (v := .slice (some ⟨g, 0, none⟩) nl cv) rfl (by kernel_rfl) (by kernel_rfl) (by kernel_rfl) (fun _ _ _ h => h) (Or.inl ⟨by kernel_rfl, ?_⟩) hS ?_
  · intro w5 hSw
    clear hSw hS
    go_simp
  simp only [Act.put, List.setIfInBounds_toArray, List.set_cons_zero, List.set_cons_succ]
  refine wpAnyH_take (i := 2) (oi := { dst := some 45, op := Go.Op.sliceToArrayPointer 99 (Go.Operand.tmp 44), type := 0, pos := "note.go:116", after := #[{ on := 1, ground := Go.Ground.data }], guard := none }) (v := .pointer (some ⟨g, 0, none⟩)) rfl (by kernel_rfl) (by kernel_rfl) (by kernel_rfl) (fun _ _ _ h => h) (Or.inl ⟨by kernel_rfl, ?_⟩) hS ?_
  · intro w5 hSw
    clear hSw hS
    go_simp
  simp only [Act.put, List.setIfInBounds_toArray, List.set_cons_zero, List.set_cons_succ]
  refine wpAnyH_take (i := 3) (oi := { dst := some 46, op := Go.Op.load 99 (Go.Operand.tmp 45), type := 99, pos := "note.go:116", after := #[{ on := 2, ground := Go.Ground.data }], guard := none }) (v := .agg #[.int .u8 (x0.toNat : Int), .int .u8 (x1.toNat : Int), .int .u8 (x2.toNat : Int), .int .u8 (x3.toNat : Int)]) rfl (by kernel_rfl) (by kernel_rfl) (by kernel_rfl) (fun _ _ _ h => h) (Or.inl ⟨by kernel_rfl, ?_⟩) hS ?_
  · intro w5 hSw
    have h1 := hSw.1.1
    have h2 := hSw.1.2.1
    have h3 := hSw.1.2.2.1
    have h4 := hSw.1.2.2.2
    clear hSw
    go_simp
  simp only [Act.put, List.setIfInBounds_toArray, List.set_cons_zero, List.set_cons_succ]
  refine wpAnyH_take (i := 5) (oi := { dst := some 48, op := Go.Op.move (Go.Operand.tmp 9), type := 23, pos := "note.go:116", after := #[], guard := none }) (v := .slice (some ⟨g, 0, none⟩) nl cv) rfl (by kernel_rfl) (by kernel_rfl) (by kernel_rfl) (fun _ _ _ h => h) (Or.inl ⟨by kernel_rfl, ?_⟩) hS ?_
  · intro w5 hSw
    clear hSw hS
    go_simp
  simp only [Act.put, List.setIfInBounds_toArray, List.set_cons_zero, List.set_cons_succ]
  refine wpAnyH_take (i := 6) (oi := { dst := some 49, op := Go.Op.slice 23 (Go.Operand.tmp 48) (some (Go.Operand.const (Go.Value.int Go.IntKind.i64 4))) none none, type := 23, pos := "note.go:116", after := #[{ on := 5, ground := Go.Ground.data }], guard := none }) (v := .slice sa sn sc) rfl (by kernel_rfl) (by kernel_rfl) (by kernel_rfl) (fun _ _ _ h => h) (Or.inl ⟨by kernel_rfl, ?_⟩) hS ?_
  · intro w5 hSw
    clear hSw hS
    rw [← HSD.out]; go_simp <;> (intro h; exact absurd h (by omega))
  simp only [Act.put, List.setIfInBounds_toArray, List.set_cons_zero, List.set_cons_succ]
  refine wpAnyH_ready (rs := [4]) (by kernel_rfl) (by simp) ?_
  refine AllReadyH.cons (o := { dst := some 47, op := Go.Op.call { callee := Go.Callee.value (Go.Operand.func 58), args := #[Go.Operand.tmp 46], argTypes := #[99] }, type := 62, pos := "note.go:116", after := #[{ on := 3, ground := Go.Ground.data }], guard := none }) rfl (fun K hK => ?_) AllReadyH.nil
  rw [if_pos (by kernel_rfl)]
  go_simp
  refine (hashNumber_walk x0 x1 x2 x3 _).mono ?_
  rintro e w4 ⟨rfl, u⟩
  dsimp only
  obtain ⟨hh, HHH⟩ : ∃ hh, Hid (h4 [x0, x1, x2, x3] = hh) := ⟨_, Hid.of rfl⟩
  rw [HHH.out]
  have hS2 := (show (w4.cell? ⟨g, 0, none⟩ = some (.int .u8 (x0.toNat : Int)) ∧ w4.cell? ⟨g, 1, none⟩ = some (.int .u8 (x1.toNat : Int)) ∧ w4.cell? ⟨g, 2, none⟩ = some (.int .u8 (x2.toNat : Int)) ∧ w4.cell? ⟨g, 3, none⟩ = some (.int .u8 (x3.toNat : Int))) ∧ w4.there w.heap.size 0 3 ∧ OwnN w4 w.heap.size (.slice (some ⟨g, 0, none⟩) nl cv) (x0 :: x1 :: x2 :: x3 :: x4 :: r5) ∧ Up w w4 ∧ w.heap.size < w4.heap.size from ⟨⟨u.cell hS.1.1, u.cell hS.1.2.1, u.cell hS.1.2.2.1, u.cell hS.1.2.2.2⟩, there_up hS.2.1 hS.2.2.2.2 u, hS.2.2.1.up u, hS.2.2.2.1.trans u, Nat.lt_of_lt_of_le hS.2.2.2.2 u.size⟩)
  clear hS u
  refine hK.out _ _ hS2 (fun hS => ?_)
  clear hK hS2 K
  refine wpAnyH_take (i := 7) (oi := { dst := some 50, op := Go.Op.build 76 #[(0, Go.Operand.tmp 43), (1, Go.Operand.tmp 47), (2, Go.Operand.tmp 49)], type := 76, pos := "note.go:116", after := #[{ on := 0, ground := Go.Ground.data }, { on := 4, ground := Go.Ground.data }, { on := 6, ground := Go.Ground.data }], guard := none }) (v := .agg #[.string name, .int .u32 (hh : Int), .slice sa sn sc]) rfl (by kernel_rfl) (by kernel_rfl) (by kernel_rfl) (fun _ _ _ h => h) (Or.inl ⟨by kernel_rfl, ?_⟩) hS ?_
  · intro w5 hSw
    clear hSw hS
    go_simp
  simp only [Act.put, List.setIfInBounds_toArray, List.set_cons_zero, List.set_cons_succ]
  refine wpAnyH_ready (rs := [8]) (by kernel_rfl) (by simp) ?_
  refine AllReadyH.cons (o := { dst := none, op := Go.Op.store 76 (Go.Operand.tmp 2) (Go.Operand.tmp 50), type := 0, pos := "note.go:116", after := #[{ on := 7, ground := Go.Ground.data }, { on := 4, ground := Go.Ground.chain }, { on := 0, ground := Go.Ground.phase }, { on := 1, ground := Go.Ground.phase }, { on := 2, ground := Go.Ground.phase }, { on := 3, ground := Go.Ground.phase }, { on := 4, ground := Go.Ground.phase }, { on := 5, ground := Go.Ground.phase }, { on := 6, ground := Go.Ground.phase }, { on := 7, ground := Go.Ground.phase }], guard := none }) rfl (fun K hK => ?_) AllReadyH.nil
  rw [if_pos (by kernel_rfl)]
  refine wp_store_mid _ _ _ rfl w.heap.size 0 #[.string name, .int .u32 (hh : Int), .slice sa sn sc] rfl rfl (by exact hS.2.1) infoS (by simp [Value.oneCell']) ?_
  simp only [Act.put]
  have hgl : ∀ j, (w4.setCells w.heap.size 0 [.string name, .int .u32 (hh : Int), .slice sa sn sc]).cell? ⟨g, j, none⟩ = w4.cell? ⟨g, j, none⟩ := fun j => World.cell?_setCells_out _ _ _ _ _ (fun e => absurd e hgne)
  have hS2 := (show ((w4.setCells w.heap.size 0 [.string name, .int .u32 (hh : Int), .slice sa sn sc]).cell? ⟨g, 0, none⟩ = some (.int .u8 (x0.toNat : Int)) ∧ (w4.setCells w.heap.size 0 [.string name, .int .u32 (hh : Int), .slice sa sn sc]).cell? ⟨g, 1, none⟩ = some (.int .u8 (x1.toNat : Int)) ∧ (w4.setCells w.heap.size 0 [.string name, .int .u32 (hh : Int), .slice sa sn sc]).cell? ⟨g, 2, none⟩ = some (.int .u8 (x2.toNat : Int)) ∧ (w4.setCells w.heap.size 0 [.string name, .int .u32 (hh : Int), .slice sa sn sc]).cell? ⟨g, 3, none⟩ = some (.int .u8 (x3.toNat : Int))) ∧ (w4.setCells w.heap.size 0 [.string name, .int .u32 (hh : Int), .slice sa sn sc]).there w.heap.size 0 3 ∧ OwnN (w4.setCells w.heap.size 0 [.string name, .int .u32 (hh : Int), .slice sa sn sc]) w.heap.size (.slice (some ⟨g, 0, none⟩) nl cv) (x0 :: x1 :: x2 :: x3 :: x4 :: r5) ∧ Up w (w4.setCells w.heap.size 0 [.string name, .int .u32 (hh : Int), .slice sa sn sc]) ∧ w.heap.size < (w4.setCells w.heap.size 0 [.string name, .int .u32 (hh : Int), .slice sa sn sc]).heap.size from
    ⟨⟨(hgl 0).trans hS.1.1, (hgl 1).trans hS.1.2.1, (hgl 2).trans hS.1.2.2.1, (hgl 3).trans hS.1.2.2.2⟩, World.there_setCells hS.2.1 _ _ _, hS.2.2.1.setC (fun e => hgne (by injection e)), up_setCells (Nat.le_refl _) _ 0 hS.2.2.2.1, by rw [setCells_size]; exact hS.2.2.2.2⟩)
  have HRG := Hid.of (World.rangeAt_setCells_same w4 w.heap.size 0 [.string name, .int .u32 (hh : Int), .slice sa sn sc] hS.2.1)
  clear hS hgl
  generalize w4.setCells w.heap.size 0 [.string name, .int .u32 (hh : Int), .slice sa sn sc] = w6 at *
  refine hK.out _ _ hS2 (fun hS => ?_)
  clear hK hS2 K
  refine wpAnyH_ready (rs := [9]) (by kernel_rfl) (by simp) ?_
  refine AllReadyH.cons (o := { dst := some 3, op := Go.Op.assign (Go.Operand.const (Go.Value.bool true)), type := 4, pos := "note.go:116", after := #[{ on := 8, ground := Go.Ground.chain }, { on := 0, ground := Go.Ground.phase }, { on := 1, ground := Go.Ground.phase }, { on := 2, ground := Go.Ground.phase }, { on := 3, ground := Go.Ground.phase }, { on := 4, ground := Go.Ground.phase }, { on := 5, ground := Go.Ground.phase }, { on := 6, ground := Go.Ground.phase }, { on := 7, ground := Go.Ground.phase }, { on := 8, ground := Go.Ground.phase }], guard := none }) rfl (fun K hK => ?_) AllReadyH.nil
  rw [if_pos (by kernel_rfl)]
  go_simp
  refine hK.out _ _ hS (fun hS2 => ?_)
  clear hS2 hK K
  have HZ := Hid.of hS.2.2
  clear hS
  refine wpAnyH_done (by kernel_rfl) ?_ _
  go_wp2_with fail
  refine bodyPost_ret (result_cell_tmp Tryd.results36 _ _ w.heap.size [.string name, .int .u32 (hh : Int), .slice sa sn sc] _ rfl rfl HRG.out Tryd.underlying76 rfl infoS) rfl ?_
  have hn4 : OwnN w6 w.heap.size (.slice sa sn sc) (x4 :: r5) := by
    have := HZ.out.1.drop (k := 4) (by simp)
    rw [HSD.out] at this
    exact this
  have hs4 : Sl w6 (.slice sa sn sc) (x4 :: r5) := hn4.sl
  obtain rfl : sn = (x4 :: r5).length := by
    obtain ⟨a', c', e, _⟩ := hs4
    injection e
  have hbk : ∀ b, (Value.slice sa (x4 :: r5).length sc).ownBlock = some b → w.heap.size ≤ b ∧ b < w6.heap.size := by
    intro b hb
    have h1 : ∃ o, sa = some ⟨g, o, none⟩ := by
      have := HSD.out
      unfold sliced at this
      injection this with e1 _ _
      split at e1
      · exact ⟨_, e1.symm⟩
      · rw [Option.map_some, add_plain] at e1
        exact ⟨_, e1.symm⟩
    obtain ⟨o, rfl⟩ := h1
    injection hb with hb
    subst hb
    obtain ⟨a', c', e, _, h⟩ := hs4
    rcases h with h | ⟨b', off, e2, hb, _⟩
    · cases h
    · injection e with e1 _ _
      rw [e2] at e1
      injection e1 with e1
      injection e1 with e1 _ _
      exact ⟨Nat.le_of_lt hg0, by rw [e1]; exact hb⟩
  refine .inr ⟨⟨name, hh, x4 :: r5⟩, sa, sc, ?_, rfl, hs4, hbk, HZ.out.2.1, hn4⟩
  rw [HR.out, ← HHH.out]
  rfl
end Go.Proofs.YtaobnnlcfefodaaDoor
