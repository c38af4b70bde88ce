import Derived.Test.YtaobnnlcfefodaaGreatDoorFb
import Derived.Laws.BitsAllLaws
import Derived.Test.YtaobnnlcfefodaaGreatDoorGv
import Derived.Test.YtaobnnlcfefodaaGreatDoorHq
import Derived.Test.YtaobnnlcfefodaaGreatDoorLx
import Derived.Test.YtaobnnlcfefodaaGreatDoorSl
import Derived.Shelf.Small.Wraps
import Derived.Laws.Cover3
import Derived.Deep.MidRow
import Derived.Deep.RegionHeld3
import Derived.Test.YtaobnnlcfefodaaGreatDoorFg
import Derived.Test.YtaobnnlcfefodaaGreatDoorLy
import Derived.Test.YtaobnnlcfefodaaGreatDoorFm
namespace Go.Proofs.YtaobnnlcfefodaaGreatDoor
open Go.RowKit TextNum
theorem orS32 (a b k : Nat) (hb : b < 2 ^ k) (h : 2 ^ k * a + b < 4294967296) : bits .or .u32 ((2 ^ k * a : Nat) : Int) (b : Int) = ((2 ^ k * a + b : Nat) : Int) := by
  rw [u32_or_nat _ _ (by omega) (by omega), Nat.two_pow_add_eq_or_of_lt hb]
theorem or_h4 (x0 x1 x2 x3 : UInt8) : bits .or .u32 (bits .or .u32 (bits .or .u32 ((x0.toNat : Int) * 16777216) ((x1.toNat : Int) * 65536)) ((x2.toNat : Int) * 256)) (x3.toNat : Int) = (h4 [x0, x1, x2, x3] : Int) := by
  have h0 := x0.toNat_lt
  have h1 := x1.toNat_lt
  have h2 := x2.toNat_lt
  have h3 := x3.toNat_lt
  have e1 := orS32 x0.toNat (x1.toNat * 65536) 24 (by omega) (by omega)
  have e2 := orS32 (x0.toNat * 256 + x1.toNat) (x2.toNat * 256) 16 (by omega) (by omega)
  have e3 := orS32 (x0.toNat * 65536 + x1.toNat * 256 + x2.toNat) x3.toNat 8 (by omega) (by omega)
  rw [show ((x0.toNat : Int) * 16777216) = ((2 ^ 24 * x0.toNat : Nat) : Int) by omega, show ((x1.toNat : Int) * 65536) = ((x1.toNat * 65536 : Nat) : Int) by omega, e1,
    show ((2 ^ 24 * x0.toNat + x1.toNat * 65536 : Nat) : Int) = ((2 ^ 16 * (x0.toNat * 256 + x1.toNat) : Nat) : Int) by omega, show ((x2.toNat : Int) * 256) = ((x2.toNat * 256 : Nat) : Int) by omega, e2,
    show ((2 ^ 16 * (x0.toNat * 256 + x1.toNat) + x2.toNat * 256 : Nat) : Int) = ((2 ^ 8 * (x0.toNat * 65536 + x1.toNat * 256 + x2.toNat) : Nat) : Int) by omega, e3]
  simp only [h4, List.getD_cons_zero, List.getD_cons_succ]
  omega
set_option maxRecDepth 100000 in
theorem hashNumber_walk (x0 x1 x2 x3 : UInt8) (w : World) : Calls Tryz.prog 84 #[.agg #[.int .u8 (x0.toNat : Int), .int .u8 (x1.toNat : Int), .int .u8 (x2.toNat : Int), .int .u8 (x3.toNat : Int)]] w fun e w' => e = .returned (.int .u32 (h4 [x0, x1, x2, x3] : Int)) ∧ Up w w' := by
  have h0 := x0.toNat_lt
  have h1 := x1.toNat_lt
  have h2 := x2.toNat_lt
  have h3 := x3.toNat_lt
  go_enter Tryz.func84, Tryz.ntmps84
  go_wp2
  go_ret
  refine ⟨?_, (Up.refl w).alloc _⟩
  rw [← or_h4]
  rfl
end Go.Proofs.YtaobnnlcfefodaaGreatDoor
namespace Go.Proofs.YtaobnnlcfefodaaGreatDoor
open Go.RowKit TextNum
theorem trim_pre {l : List UInt8} (h : Go.Lib.hasPrefix l MK = true) : Go.Lib.trimPrefix l MK = l.drop 4 := by
  unfold Go.Lib.trimPrefix
  rw [if_pos h]
  rfl
def zs : List Value := [.string ⟨#[]⟩, .int .u32 0, .slice none 0 0]
theorem zs_one : ∀ v, v ∈ zs → v.oneCell' = true := by
  intro v hv
  simp only [zs, List.mem_cons, List.not_mem_nil, or_false] at hv
  rcases hv with rfl | rfl | rfl <;> rfl
theorem five : ∀ {l : List UInt8}, 4 < l.length → ∃ x0 x1 x2 x3 x4 r5, l = x0 :: x1 :: x2 :: x3 :: x4 :: r5
  | x0 :: x1 :: x2 :: x3 :: x4 :: r5, _ => ⟨x0, x1, x2, x3, x4, r5, rfl⟩
theorem infoS : (Tryz.prog.info? 109).map (·.size) = some 3 := by kernel_rfl
theorem setCells_size (b : Nat) : ∀ (vs : List Value) (o : Nat) (w : World), (w.setCells b o vs).heap.size = w.heap.size
  | [], _, _ => rfl
  | v :: r, o, w => by
    show ((w.setCell ⟨b, o, none⟩ v).setCells b (o + 1) r).heap.size = _
    rw [setCells_size b r (o + 1)]
    simp
theorem sl_setCells {w : World} {g nl cv b : Nat} {l : List UInt8} {vs : List Value} (h : Sl w (.slice (some ⟨g, 0, none⟩) nl cv) l) (hne : g ≠ b) : Sl (w.setCells b 0 vs) (.slice (some ⟨g, 0, none⟩) nl cv) l := by
  obtain ⟨a, c, e, hc, h⟩ := h
  refine ⟨a, c, e, hc, ?_⟩
  rcases h with h | ⟨b', off, e2, hb, h⟩
  · exact .inl h
  · obtain rfl : g = b' := by
      injection e with e1 _ _
      rw [e2] at e1
      injection e1 with e1
      injection e1
    exact .inr ⟨g, off, e2, by rw [setCells_size]; exact hb, fun i hi => (World.cell?_setCells_out _ _ _ _ _ (fun e => absurd e hne)).trans (h i hi)⟩
/-- what readSigLine answers -/
def RA (l : List UInt8) (w : World) (e : Ending) (w' : World) : Prop :=
  (rdS l = none ∧ e = .returned (.tuple #[.agg #[.string ⟨#[]⟩, .int .u32 0, .slice none 0 0], .bool false]) ∧ Up w w') ∨
  ∃ x a c, rdS l = some x ∧ e = .returned (.tuple #[.agg #[.string x.name, .int .u32 (x.hash : Int), .slice a x.bytes.length c], .bool true]) ∧ Sl w' (.slice a x.bytes.length c) x.bytes ∧ (∀ b, (Value.slice a x.bytes.length c).ownBlock = some b → w.heap.size ≤ b ∧ b < w'.heap.size) ∧ Up w w' ∧ OwnN w' w.heap.size (.slice a x.bytes.length c) x.bytes
set_option maxRecDepth 100000 in
set_option maxHeartbeats 2000000 in
theorem readSigLine_walk (s : ByteArray) (hs : s.size ≤ 1048576) (w : World) (hT : TabL w) (hW : Go.Lib.WhiteTab 6 w) :
    Calls Tryz.prog 61 #[.string s] w (RA s.data.toList w) := by
  have HT := Hid.of hT
  have HW := Hid.of hW
  clear hT hW
  go_enter Tryz.func61, Tryz.ntmps61
  go_wp2_with fail
  refine (Any.strings_CutPrefix Tryz.lays103 s ⟨#[226, 128, 148, 32]⟩ _).mono ?_
  rintro e w' ⟨rfl, hw⟩
  obtain rfl := hw.symm
  rw [show (⟨#[226, 128, 148, 32]⟩ : ByteArray).data.toList = MK from rfl]
  by_cases hp : Go.Lib.hasPrefix s.data.toList MK = true
  rotate_left
  · have hp0 : Go.Lib.hasPrefix s.data.toList MK = false := by simpa using hp
    have HR := Hid.of (show rdS s.data.toList = none by unfold rdS; rw [if_neg hp])
    rw [hp0]
    clear hp hp0
    generalize (Go.Lib.trimPrefix s.data.toList MK) = tr
    dsimp only
    go_wp2
    refine bodyPost_ret (result_cell_tmp Tryz.results61 _ _ w.heap.size zs _ rfl rfl (fun j v hv => ?_) Tryz.underlying109 rfl infoS) rfl ?_
    · rw [World.cell?_alloc_at _ _ _ _ rfl, Nat.zero_add]; simpa [zs] using hv
    · exact .inl ⟨HR.out, rfl, (Up.refl w).alloc _⟩
  have HR := Hid.of (show rdS s.data.toList = _ by unfold rdS; rw [if_pos hp])
  rw [hp, trim_pre hp]
  clear hp
  have hrs : (s.data.toList.drop 4).length ≤ 1048576 := by rw [List.length_drop, ← Go.Lib.size_eq]; omega
  generalize s.data.toList.drop 4 = r at *
  generalize s.data.toList = l at *
  dsimp only
  go_wp2_with fail
  have hu0 := (Up.refl w).alloc (Obj.cells zs.toArray 109)
  have ht0 := there_new w zs 109
  have hz0 : w.heap.size < (w.alloc (Obj.cells zs.toArray 109)).heap.size := by rw [World.alloc]; simp
  change Calls _ _ _ (w.alloc (Obj.cells zs.toArray 109)) _
  generalize w.alloc (Obj.cells zs.toArray 109) = w0 at *
  refine (Cut1_walk ⟨r.toArray⟩ (by rw [Go.Lib.size_eq]; simpa using hrs) 32 _).mono ?_
  rintro e w1 ⟨rfl, n1, rfl⟩
  have hu1 : Up w (w0.drewN n1) := hu0.drewN n1
  have ht1 : (w0.drewN n1).there w.heap.size 0 3 := there_up ht0 hz0 ((Up.refl _).drewN n1)
  have hz1 : w.heap.size < (w0.drewN n1).heap.size := hz0
  generalize w0.drewN n1 = w1 at *
  clear hu0 ht0 hz0 hrs
  rw [show (⟨r.toArray⟩ : ByteArray).data.toList = r from rfl]
  generalize Go.Lib.cut r [32] = ct at *
  obtain ⟨nm, cd, fl⟩ := ct
  dsimp only at HR ⊢
  have H1 := Hid.of (And.intro hu1 (And.intro ht1 hz1))
  clear hu1 ht1 hz1
  go_wp2_with fail
  refine (DecodeBase64_walk ⟨cd.toArray⟩ w1 (HT.out.up H1.out.1)).mono ?_
  rintro e w2 ⟨v2, rfl, hO, u2⟩
  have H2 := Hid.of (show w2.there w.heap.size 0 3 ∧ Up w w2 ∧ w.heap.size < w2.heap.size from ⟨there_up H1.out.2.1 H1.out.2.2 u2, H1.out.1.trans u2, Nat.lt_of_lt_of_le H1.out.2.2 u2.size⟩)
  have HO := Hid.of (hO.base (Nat.succ_le_of_lt H1.out.2.2))
  clear u2 hO H1
  rw [show (⟨cd.toArray⟩ : ByteArray).data.toList = cd from rfl] at HO ⊢
  generalize b64R cd = br at *
  obtain ⟨bl, be⟩ := br
  dsimp only at HO HR ⊢
  obtain ⟨av, cv, rfl⟩ := HO.out.len
  generalize hnl : bl.length = nl at *
  go_wp2_with fail
  refine (CheckName_walk ⟨nm.toArray⟩ w2 (WhiteTab_up HW.out H2.out.2.1)).mono ?_
  rintro e w3 ⟨rfl, u3⟩
  have H3 := Hid.of (show w3.there w.heap.size 0 3 ∧ Up w w3 from ⟨there_up H2.out.1 H2.out.2.2 u3, H2.out.2.1.trans u3⟩)
  have HO3 := Hid.of (HO.out.below u3)
  have hz3 : w.heap.size < w3.heap.size := Nat.lt_of_lt_of_le H2.out.2.2 u3.size
  clear u3 H2 HO
  dsimp only
  generalize (⟨nm.toArray⟩ : ByteArray) = name at *
  rcases name_val name with hn | hn
  rotate_left
  · have HR := Hid.of (show rdS l = none by rw [HR.out, if_pos (.inl (by rw [hn]; decide))])
    rw [hn]
    go_wp2_with (with_reducible show wpList _ _ _ ({ dst := _, op := Op.store 109 (.tmp 2) _, type := _, pos := _, after := _, guard := _ } :: _) _ _; refine Shut.out ?_)
    show wpList _ _ _ _ _ _
    refine wpList_store_mid rfl _ _ _ rfl w.heap.size 0 zs.toArray rfl rfl (by exact H3.out.1) infoS (all_oneCell_toArray zs_one) ?_
    simp only [Act.put]
    have hrg : (World.setCells w3 w.heap.size 0 zs.toArray.toList).rangeAt w.heap.size 0 zs := World.rangeAt_setCells_same _ _ _ _ (by exact H3.out.1)
    have HUZ := Hid.of (up_setCells (Nat.le_refl _) zs.toArray.toList 0 H3.out.2)
    generalize World.setCells w3 w.heap.size 0 zs.toArray.toList = WZ at *
    go_wp2_with fail
    refine bodyPost_ret (result_cell_tmp Tryz.results61 _ _ w.heap.size zs _ rfl rfl hrg Tryz.underlying109 rfl infoS) rfl ?_
    exact .inl ⟨HR.out, rfl, HUZ.out⟩
  have hn0 := hn
  rw [hn] at HR ⊢
  by_cases hbe : be = 0
  rotate_left
  · have hbe' : (be == 0) = false := by simpa using hbe
    have HR := Hid.of (show rdS l = none by rw [HR.out, if_pos (.inr (.inl hbe))])
    go_wp2_with (with_reducible show wpList _ _ _ ({ dst := _, op := Op.store 109 (.tmp 2) _, type := _, pos := _, after := _, guard := _ } :: _) _ _; refine Shut.out ?_)
    show wpList _ _ _ _ _ _
    refine wpList_store_mid rfl _ _ _ rfl w.heap.size 0 zs.toArray rfl rfl (by exact H3.out.1) infoS (all_oneCell_toArray zs_one) ?_
    simp only [Act.put]
    have hrg : (World.setCells w3 w.heap.size 0 zs.toArray.toList).rangeAt w.heap.size 0 zs := World.rangeAt_setCells_same _ _ _ _ (by exact H3.out.1)
    have HUZ := Hid.of (up_setCells (Nat.le_refl _) zs.toArray.toList 0 H3.out.2)
    generalize World.setCells w3 w.heap.size 0 zs.toArray.toList = WZ at *
    go_wp2_with fail
    refine bodyPost_ret (result_cell_tmp Tryz.results61 _ _ w.heap.size zs _ rfl rfl hrg Tryz.underlying109 rfl infoS) rfl ?_
    exact .inl ⟨HR.out, rfl, HUZ.out⟩
  subst hbe
  by_cases hn4 : nl ≤ 4
  · have hn4' : (nl : Int) ≤ 4 := by omega
    have HR := Hid.of (show rdS l = none by rw [HR.out, if_pos (.inr (.inr hn4))])
    clear hn4
    go_wp2_with (with_reducible show wpList _ _ _ ({ dst := _, op := Op.store 109 (.tmp 2) _, type := _, pos := _, after := _, guard := _ } :: _) _ _; refine Shut.out ?_)
    show wpList _ _ _ _ _ _
    refine wpList_store_mid rfl _ _ _ rfl w.heap.size 0 zs.toArray rfl rfl (by exact H3.out.1) infoS (all_oneCell_toArray zs_one) ?_
    simp only [Act.put]
    have hrg : (World.setCells w3 w.heap.size 0 zs.toArray.toList).rangeAt w.heap.size 0 zs := World.rangeAt_setCells_same _ _ _ _ (by exact H3.out.1)
    have HUZ := Hid.of (up_setCells (Nat.le_refl _) zs.toArray.toList 0 H3.out.2)
    generalize World.setCells w3 w.heap.size 0 zs.toArray.toList = WZ at *
    go_wp2_with fail
    refine bodyPost_ret (result_cell_tmp Tryz.results61 _ _ w.heap.size zs _ rfl rfl hrg Tryz.underlying109 rfl infoS) rfl ?_
    exact .inl ⟨HR.out, rfl, HUZ.out⟩
  have hn4' : ¬ (nl : Int) ≤ 4 := by omega
  replace HR := Hid.of (HR.out.trans (if_neg (by rintro (h | h | h) <;> first | exact h rfl | exact hn4 h)))
  obtain ⟨x0, x1, x2, x3, x4, r5, rfl⟩ : ∃ x0 x1 x2 x3 x4 r5, bl = x0 :: x1 :: x2 :: x3 :: x4 :: r5 := five (by omega)
  rw [List.drop_succ_cons, List.drop_succ_cons, List.drop_succ_cons, List.drop_succ_cons, List.drop_zero] at HR
  obtain ⟨g, rfl, hg0, hgl, hc0, hc1, hc2, hc3⟩ : ∃ g, av = some ⟨g, 0, none⟩ ∧ w.heap.size < g ∧ g < w3.heap.size ∧ w3.cell? ⟨g, 0, none⟩ = some (.int .u8 (x0.toNat : Int)) ∧ w3.cell? ⟨g, 1, none⟩ = some (.int .u8 (x1.toNat : Int)) ∧ w3.cell? ⟨g, 2, none⟩ = some (.int .u8 (x2.toNat : Int)) ∧ w3.cell? ⟨g, 3, none⟩ = some (.int .u8 (x3.toNat : Int)) := by
    rcases HO3.out.2 with ⟨e, _⟩ | ⟨g, cap, cur, e, hb, hg, _⟩
    · injection e with _ e2 _
      omega
    · injection e with e1 _ _
      have hcs := World.ownsRow.cells HO3.out (g := g) (by rw [e1]; rfl)
      refine ⟨g, e1, hb, (Array.getElem?_eq_some_iff.1 hg).1, ?_, ?_, ?_, ?_⟩
      · exact hcs 0 _ rfl
      · exact hcs 1 _ rfl
      · exact hcs 2 _ rfl
      · exact hcs 3 _ rfl
  have hsl : OwnN w3 w.heap.size (.slice (some ⟨g, 0, none⟩) nl cv) (x0 :: x1 :: x2 :: x3 :: x4 :: r5) := (HO3.out.base (Nat.le_succ _)).n (by simp)
  have har : ∀ w0, (Instr.arrayAt 130 (.slice (some ⟨g, 0, none⟩) nl cv)).run Tryz.prog w0 = .ok (.pointer (some ⟨g, 0, none⟩)) w0 := fun w0 => run_arrayAt w0 130 _ 4 _ nl cv Tryz.underlying130 (by omega)
  clear HO3
  have hgne : g ≠ w.heap.size := by omega
  go_wp2_with fail
  refine wp_region_held_drew (S := fun w2 => (w2.cell? ⟨g, 0, none⟩ = some (.int .u8 (x0.toNat : Int)) ∧ w2.cell? ⟨g, 1, none⟩ = some (.int .u8 (x1.toNat : Int)) ∧ w2.cell? ⟨g, 2, none⟩ = some (.int .u8 (x2.toNat : Int)) ∧ w2.cell? ⟨g, 3, none⟩ = some (.int .u8 (x3.toNat : Int))) ∧ w2.there w.heap.size 0 3 ∧ OwnN w2 w.heap.size (.slice (some ⟨g, 0, none⟩) nl cv) (x0 :: x1 :: x2 :: x3 :: x4 :: r5) ∧ Up w w2 ∧ w.heap.size < w2.heap.size) (by kernel_rfl) ⟨⟨hc0, hc1, hc2, hc3⟩, H3.out.1, hsl.up (Up.refl w3).drew, H3.out.2.drew, hz3⟩ (fun hS => ?_)
  clear hc0 hc1 hc2 hc3 hsl H3 hz3
  obtain ⟨sa, sn, sc, HSD⟩ : ∃ sa sn sc, Hid (sliced (some ⟨g, 0, none⟩) 4 nl cv 1 = .slice sa sn sc) := ⟨_, _, _, Hid.of rfl⟩
  refine wpAnyH_take (i := 0) (oi := { dst := some 43, op := Go.Op.move (Go.Operand.tmp 6), type := 9, pos := "note.go:116", after := #[], guard := none }) (v := .string name) rfl (by kernel_rfl) (by kernel_rfl) (by kernel_rfl) (fun _ _ _ h => h) (Or.inl ⟨by kernel_rfl, ?_⟩) hS ?_
  · intro w5 hSw
    clear hSw hS
    go_simp
  simp only [Act.put, List.setIfInBounds_toArray, List.set_cons_zero, List.set_cons_succ]
  refine wpAnyH_take (i := 1) (oi := { dst := some 44, op := Go.Op.move (Go.Operand.tmp 9), type := 23, pos := "note.go:116", after := #[], guard := none }) (v := .slice (some ⟨g, 0, none⟩) nl cv) rfl (by kernel_rfl) (by kernel_rfl) (by kernel_rfl) (fun _ _ _ h => h) (Or.inl ⟨by kernel_rfl, ?_⟩) hS ?_
  · intro w5 hSw
    clear hSw hS
    go_simp
  simp only [Act.put, List.setIfInBounds_toArray, List.set_cons_zero, List.set_cons_succ]
  refine wpAnyH_take (i := 2) (oi := { dst := some 45, op := Go.Op.sliceToArrayPointer 130 (Go.Operand.tmp 44), type := 0, pos := "note.go:116", after := #[{ on := 1, ground := Go.Ground.data }], guard := none }) (v := .pointer (some ⟨g, 0, none⟩)) rfl (by kernel_rfl) (by kernel_rfl) (by kernel_rfl) (fun _ _ _ h => h) (Or.inl ⟨by kernel_rfl, ?_⟩) hS ?_
  · intro w5 hSw
    clear hSw hS
    go_simp
  simp only [Act.put, List.setIfInBounds_toArray, List.set_cons_zero, List.set_cons_succ]
  refine wpAnyH_take (i := 3) (oi := { dst := some 46, op := Go.Op.load 130 (Go.Operand.tmp 45), type := 130, pos := "note.go:116", after := #[{ on := 2, ground := Go.Ground.data }], guard := none }) (v := .agg #[.int .u8 (x0.toNat : Int), .int .u8 (x1.toNat : Int), .int .u8 (x2.toNat : Int), .int .u8 (x3.toNat : Int)]) rfl (by kernel_rfl) (by kernel_rfl) (by kernel_rfl) (fun _ _ _ h => h) (Or.inl ⟨by kernel_rfl, ?_⟩) hS ?_
  · intro w5 hSw
    have h1 := hSw.1.1
    have h2 := hSw.1.2.1
    have h3 := hSw.1.2.2.1
    have h4 := hSw.1.2.2.2
    clear hSw
    go_simp
  simp only [Act.put, List.setIfInBounds_toArray, List.set_cons_zero, List.set_cons_succ]
  refine wpAnyH_take (i := 5) (oi := { dst := some 48, op := Go.Op.move (Go.Operand.tmp 9), type := 23, pos := "note.go:116", after := #[], guard := none }) (v := .slice (some ⟨g, 0, none⟩) nl cv) rfl (by kernel_rfl) (by kernel_rfl) (by kernel_rfl) (fun _ _ _ h => h) (Or.inl ⟨by kernel_rfl, ?_⟩) hS ?_
  · intro w5 hSw
    clear hSw hS
    go_simp
  simp only [Act.put, List.setIfInBounds_toArray, List.set_cons_zero, List.set_cons_succ]
  refine wpAnyH_take (i := 6) (oi := { dst := some 49, op := Go.Op.slice 23 (Go.Operand.tmp 48) (some (Go.Operand.const (Go.Value.int Go.IntKind.i64 4))) none none, type := 23, pos := "note.go:116", after := #[{ on := 5, ground := Go.Ground.data }], guard := none }) (v := .slice sa sn sc) rfl (by kernel_rfl) (by kernel_rfl) (by kernel_rfl) (fun _ _ _ h => h) (Or.inl ⟨by kernel_rfl, ?_⟩) hS ?_
  · intro w5 hSw
    clear hSw hS
    rw [← HSD.out]; go_simp <;> (intro h; exact absurd h (by omega))
  simp only [Act.put, List.setIfInBounds_toArray, List.set_cons_zero, List.set_cons_succ]
  refine wpAnyH_ready (rs := [4]) (by kernel_rfl) (by simp) ?_
  refine AllReadyH.cons (o := { dst := some 47, op := Go.Op.call { callee := Go.Callee.value (Go.Operand.func 84), args := #[Go.Operand.tmp 46], argTypes := #[130] }, type := 69, pos := "note.go:116", after := #[{ on := 3, ground := Go.Ground.data }], guard := none }) rfl (fun K hK => ?_) AllReadyH.nil
  rw [if_pos (by kernel_rfl)]
  go_simp
  refine (hashNumber_walk x0 x1 x2 x3 _).mono ?_
  rintro e w4 ⟨rfl, u⟩
  dsimp only
  obtain ⟨hh, HHH⟩ : ∃ hh, Hid (h4 [x0, x1, x2, x3] = hh) := ⟨_, Hid.of rfl⟩
  rw [HHH.out]
  have hS2 := (show (w4.cell? ⟨g, 0, none⟩ = some (.int .u8 (x0.toNat : Int)) ∧ w4.cell? ⟨g, 1, none⟩ = some (.int .u8 (x1.toNat : Int)) ∧ w4.cell? ⟨g, 2, none⟩ = some (.int .u8 (x2.toNat : Int)) ∧ w4.cell? ⟨g, 3, none⟩ = some (.int .u8 (x3.toNat : Int))) ∧ w4.there w.heap.size 0 3 ∧ OwnN w4 w.heap.size (.slice (some ⟨g, 0, none⟩) nl cv) (x0 :: x1 :: x2 :: x3 :: x4 :: r5) ∧ Up w w4 ∧ w.heap.size < w4.heap.size from ⟨⟨u.cell hS.1.1, u.cell hS.1.2.1, u.cell hS.1.2.2.1, u.cell hS.1.2.2.2⟩, there_up hS.2.1 hS.2.2.2.2 u, hS.2.2.1.up u, hS.2.2.2.1.trans u, Nat.lt_of_lt_of_le hS.2.2.2.2 u.size⟩)
  clear hS u
  refine hK.out _ _ hS2 (fun hS => ?_)
  clear hK hS2 K
  refine wpAnyH_take (i := 7) (oi := { dst := some 50, op := Go.Op.build 109 #[(0, Go.Operand.tmp 43), (1, Go.Operand.tmp 47), (2, Go.Operand.tmp 49)], type := 109, pos := "note.go:116", after := #[{ on := 0, ground := Go.Ground.data }, { on := 4, ground := Go.Ground.data }, { on := 6, ground := Go.Ground.data }], guard := none }) (v := .agg #[.string name, .int .u32 (hh : Int), .slice sa sn sc]) rfl (by kernel_rfl) (by kernel_rfl) (by kernel_rfl) (fun _ _ _ h => h) (Or.inl ⟨by kernel_rfl, ?_⟩) hS ?_
  · intro w5 hSw
    clear hSw hS
    go_simp
  simp only [Act.put, List.setIfInBounds_toArray, List.set_cons_zero, List.set_cons_succ]
  refine wpAnyH_ready (rs := [8]) (by kernel_rfl) (by simp) ?_
  refine AllReadyH.cons (o := { dst := none, op := Go.Op.store 109 (Go.Operand.tmp 2) (Go.Operand.tmp 50), type := 0, pos := "note.go:116", after := #[{ on := 7, ground := Go.Ground.data }, { on := 4, ground := Go.Ground.chain }, { on := 0, ground := Go.Ground.phase }, { on := 1, ground := Go.Ground.phase }, { on := 2, ground := Go.Ground.phase }, { on := 3, ground := Go.Ground.phase }, { on := 4, ground := Go.Ground.phase }, { on := 5, ground := Go.Ground.phase }, { on := 6, ground := Go.Ground.phase }, { on := 7, ground := Go.Ground.phase }], guard := none }) rfl (fun K hK => ?_) AllReadyH.nil
  rw [if_pos (by kernel_rfl)]
  refine wp_store_mid _ _ _ rfl w.heap.size 0 #[.string name, .int .u32 (hh : Int), .slice sa sn sc] rfl rfl (by exact hS.2.1) infoS (by simp [Value.oneCell']) ?_
  simp only [Act.put]
  have hgl : ∀ j, (w4.setCells w.heap.size 0 [.string name, .int .u32 (hh : Int), .slice sa sn sc]).cell? ⟨g, j, none⟩ = w4.cell? ⟨g, j, none⟩ := fun j => World.cell?_setCells_out _ _ _ _ _ (fun e => absurd e hgne)
  have hS2 := (show ((w4.setCells w.heap.size 0 [.string name, .int .u32 (hh : Int), .slice sa sn sc]).cell? ⟨g, 0, none⟩ = some (.int .u8 (x0.toNat : Int)) ∧ (w4.setCells w.heap.size 0 [.string name, .int .u32 (hh : Int), .slice sa sn sc]).cell? ⟨g, 1, none⟩ = some (.int .u8 (x1.toNat : Int)) ∧ (w4.setCells w.heap.size 0 [.string name, .int .u32 (hh : Int), .slice sa sn sc]).cell? ⟨g, 2, none⟩ = some (.int .u8 (x2.toNat : Int)) ∧ (w4.setCells w.heap.size 0 [.string name, .int .u32 (hh : Int), .slice sa sn sc]).cell? ⟨g, 3, none⟩ = some (.int .u8 (x3.toNat : Int))) ∧ (w4.setCells w.heap.size 0 [.string name, .int .u32 (hh : Int), .slice sa sn sc]).there w.heap.size 0 3 ∧ OwnN (w4.setCells w.heap.size 0 [.string name, .int .u32 (hh : Int), .slice sa sn sc]) w.heap.size (.slice (some ⟨g, 0, none⟩) nl cv) (x0 :: x1 :: x2 :: x3 :: x4 :: r5) ∧ Up w (w4.setCells w.heap.size 0 [.string name, .int .u32 (hh : Int), .slice sa sn sc]) ∧ w.heap.size < (w4.setCells w.heap.size 0 [.string name, .int .u32 (hh : Int), .slice sa sn sc]).heap.size from
    ⟨⟨(hgl 0).trans hS.1.1, (hgl 1).trans hS.1.2.1, (hgl 2).trans hS.1.2.2.1, (hgl 3).trans hS.1.2.2.2⟩, World.there_setCells hS.2.1 _ _ _, hS.2.2.1.setC (fun e => hgne (by injection e)), up_setCells (Nat.le_refl _) _ 0 hS.2.2.2.1, by rw [setCells_size]; exact hS.2.2.2.2⟩)
  have HRG := Hid.of (World.rangeAt_setCells_same w4 w.heap.size 0 [.string name, .int .u32 (hh : Int), .slice sa sn sc] hS.2.1)
  clear hS hgl
  generalize w4.setCells w.heap.size 0 [.string name, .int .u32 (hh : Int), .slice sa sn sc] = w6 at *
  refine hK.out _ _ hS2 (fun hS => ?_)
  clear hK hS2 K
  refine wpAnyH_ready (rs := [9]) (by kernel_rfl) (by simp) ?_
  refine AllReadyH.cons (o := { dst := some 3, op := Go.Op.assign (Go.Operand.const (Go.Value.bool true)), type := 4, pos := "note.go:116", after := #[{ on := 8, ground := Go.Ground.chain }, { on := 0, ground := Go.Ground.phase }, { on := 1, ground := Go.Ground.phase }, { on := 2, ground := Go.Ground.phase }, { on := 3, ground := Go.Ground.phase }, { on := 4, ground := Go.Ground.phase }, { on := 5, ground := Go.Ground.phase }, { on := 6, ground := Go.Ground.phase }, { on := 7, ground := Go.Ground.phase }, { on := 8, ground := Go.Ground.phase }], guard := none }) rfl (fun K hK => ?_) AllReadyH.nil
  rw [if_pos (by kernel_rfl)]
  go_simp
  refine hK.out _ _ hS (fun hS2 => ?_)
  clear hS2 hK K
  have HZ := Hid.of hS.2.2
  clear hS
  refine wpAnyH_done (by kernel_rfl) ?_ _
  go_wp2_with fail
  refine bodyPost_ret (result_cell_tmp Tryz.results61 _ _ w.heap.size [.string name, .int .u32 (hh : Int), .slice sa sn sc] _ rfl rfl HRG.out Tryz.underlying109 rfl infoS) rfl ?_
  have hn4 : OwnN w6 w.heap.size (.slice sa sn sc) (x4 :: r5) := by
    have := HZ.out.1.drop (k := 4) (by simp)
    rw [HSD.out] at this
    exact this
  have hs4 : Sl w6 (.slice sa sn sc) (x4 :: r5) := hn4.sl
  obtain rfl : sn = (x4 :: r5).length := by
    obtain ⟨a', c', e, _⟩ := hs4
    injection e
  have hbk : ∀ b, (Value.slice sa (x4 :: r5).length sc).ownBlock = some b → w.heap.size ≤ b ∧ b < w6.heap.size := by
    intro b hb
    have h1 : ∃ o, sa = some ⟨g, o, none⟩ := by
      have := HSD.out
      unfold sliced at this
      injection this with e1 _ _
      split at e1
      · exact ⟨_, e1.symm⟩
      · rw [Option.map_some, add_plain] at e1
        exact ⟨_, e1.symm⟩
    obtain ⟨o, rfl⟩ := h1
    injection hb with hb
    subst hb
    obtain ⟨a', c', e, _, h⟩ := hs4
    rcases h with h | ⟨b', off, e2, hb, _⟩
    · cases h
    · injection e with e1 _ _
      rw [e2] at e1
      injection e1 with e1
      injection e1 with e1 _ _
      exact ⟨Nat.le_of_lt hg0, by rw [e1]; exact hb⟩
  refine .inr ⟨⟨name, hh, x4 :: r5⟩, sa, sc, ?_, rfl, hs4, hbk, HZ.out.2.1, hn4⟩
  rw [HR.out, ← HHH.out]
  rfl
end Go.Proofs.YtaobnnlcfefodaaGreatDoor
namespace Go.Proofs.YtaobnnlcfefodaaGreatDoor
open Go.RowKit TextNum
/-- a list of signatures of one's own, each one's bytes too -/
def OwnL (w : World) (B : Nat) (v : Value) (qs : List (Sg × Option Addr × Nat)) : Prop := OwnG w B 109 v qs ∧ (∀ q, q ∈ qs → OwnN w B (qv q) q.1.bytes) ∧ qs.Pairwise (fun a b => ∀ k, (qv a).ownBlock = some k → (qv b).ownBlock ≠ some k)
theorem OwnN.base {w : World} {B B' : Nat} {v : Value} {l : List UInt8} (h : OwnN w B v l) (hB : B' ≤ B) : OwnN w B' v l := by
  obtain ⟨g, off, cap, cur, fr, e, hb, r⟩ := h
  exact ⟨g, off, cap, cur, fr, e, Nat.le_trans hB hb, r⟩
theorem OwnG.base {w : World} {B B' : Nat} {e : TypeId} {v : Value} {qs : List (Sg × Option Addr × Nat)} (h : OwnG w B e v qs) (hB : B' ≤ B) : OwnG w B' e v qs := by
  refine ⟨⟨h.1.1, ?_⟩, h.2⟩
  rcases h.1.2 with h | ⟨g, cap, cur, e, hb, r⟩
  · exact .inl h
  · exact .inr ⟨g, cap, cur, e, Nat.le_trans hB hb, r⟩
theorem OwnL.base {w : World} {B B' : Nat} {v : Value} {qs : List (Sg × Option Addr × Nat)} (h : OwnL w B v qs) (hB : B' ≤ B) : OwnL w B' v qs := ⟨h.1.base hB, fun q hq => (h.2.1 q hq).base hB, h.2.2⟩
theorem OwnL.up {w w' : World} {B : Nat} {v : Value} {qs : List (Sg × Option Addr × Nat)} (h : OwnL w B v qs) (u : Up w w') : OwnL w' B v qs := ⟨h.1.up u, fun q hq => (h.2.1 q hq).up u, h.2.2⟩
theorem ownL_nil (w : World) (B : Nat) : OwnL w B (.slice none 0 0) [] := ⟨⟨World.ownsRow_nil w B 109 3, by simp⟩, by simp, List.Pairwise.nil⟩
/-- what readSigLines answers -/
def RL (l : List UInt8) (w : World) (e : Ending) (w' : World) : Prop :=
  (e = .returned (.tuple #[.slice none 0 0, .bool false]) ∧ (¬ ∃ ss, Tl l ss) ∧ Up w w') ∨ ∃ v qs, e = .returned (.tuple #[v, .bool true]) ∧ Tl l (qs.map (·.1)) ∧ OwnL w' w.heap.size v qs ∧ Up w w'
theorem map_some7 {ls : List (List UInt8)} {ss : List Sg} (h : rdL ls ss) : ∀ l, l ∈ ls → rdS l ≠ none := by
  intro l hl e
  have : rdS l ∈ ls.map rdS := List.mem_map.2 ⟨l, hl, rfl⟩
  rw [h, e] at this
  simp at this
theorem linesOf_le (l x : List UInt8) (h : x ∈ linesOf l) (h0 : lnE l = 0) : x.length ≤ 1048576 := by
  have hj : joinL (linesOf l) = l ∧ l.length ≤ 1048576 := by
    unfold lnE at h0
    split at h0
    · cases h0
    · rename_i hl
      split at h0
      · exact ⟨join_lines _ (by assumption), by omega⟩
      · cases h0
  have : ∀ (xs : List (List UInt8)), x ∈ xs → x.length ≤ (joinL xs).length := by
    intro xs
    induction xs with
    | nil => intro h; cases h
    | cons y r ih =>
      intro h
      rw [joinL_cons, List.length_append, List.length_cons]
      rcases List.mem_cons.1 h with rfl | h
      · omega
      · have := ih h; omega
  have := this _ h
  rw [hj.1] at this
  omega
set_option maxRecDepth 100000 in
set_option maxHeartbeats 2000000 in
theorem readSigLines_walk (s : ByteArray) (w : World) (hT : TabL w) (hW : Go.Lib.WhiteTab 6 w) :
    Calls Tryz.prog 46 #[.string s] w (RL s.data.toList w) := by
  have HT := Hid.of hT
  have HW := Hid.of hW
  clear hT hW
  go_enter Tryz.func46, Tryz.ntmps46
  go_wp2_with fail
  refine (Lines_walk s w).mono ?_
  rintro e w1 ⟨v1, rfl, hv1, hv2, u1⟩
  generalize s.data.toList = l at *
  have H1 := Hid.of u1
  clear u1
  dsimp only
  by_cases h0 : lnE l = 0
  rotate_left
  · have HN := Hid.of (show ¬ ∃ ss, Tl l ss from fun ⟨ss, h⟩ => h0 h.1)
    obtain rfl := hv1 h0
    have h0' : (lnE l == 0) = false := by simpa using h0
    clear hv1 hv2
    generalize lnE l = er at *
    go_wp2
    go_ret2
    exact .inl ⟨rfl, HN.out, H1.out⟩
  have hO := hv2 h0
  clear hv1 hv2
  rw [h0]
  have HLL := Hid.of (fun x h => linesOf_le l x h h0)
  have HTl := Hid.of (show ∀ ss, Tl l ss ↔ linesOf l ≠ [] ∧ (linesOf l).length ≤ 16 ∧ rdL (linesOf l) ss from fun ss => ⟨fun h => h.2, fun h => ⟨h0, h⟩⟩)
  clear h0
  generalize linesOf l = ls at *
  obtain ⟨n, hn⟩ : ∃ n, ls.length = n := ⟨_, rfl⟩
  by_cases hn0 : n = 0
  · have hls : ls = [] := List.length_eq_zero_iff.1 (by omega)
    have HN := Hid.of (show ¬ ∃ ss, Tl l ss from fun ⟨ss, h⟩ => ((HTl.out ss).1 h).1 hls)
    obtain ⟨va, vc, rfl⟩ : ∃ va vc, v1 = .slice va 0 vc := by
      rcases hO.2 with ⟨rfl, _⟩ | ⟨g, cap, cur, rfl, _⟩
      · exact ⟨_, _, rfl⟩
      · rw [hn, hn0]; exact ⟨_, _, rfl⟩
    clear hO
    go_wp2
    go_ret2
    exact .inl ⟨rfl, HN.out, H1.out⟩
  obtain ⟨g, c, rfl, hgb, hcs⟩ := hO.cell (by rintro rfl; exact hn0 hn.symm)
  rw [hn]
  have HC := Hid.of hcs
  clear hO hcs
  have hn0' : ((n : Int) == 0) = false := by simpa using hn0
  by_cases h16 : 16 < n
  · have h16' : (16 : Int) < (n : Int) := by omega
    have HN := Hid.of (show ¬ ∃ ss, Tl l ss from fun ⟨ss, h⟩ => by have := ((HTl.out ss).1 h).2.1; omega)
    go_wp2
    go_ret2
    exact .inl ⟨rfl, HN.out, H1.out⟩
  have h16' : ¬ (16 : Int) < (n : Int) := by omega
  go_wp2_with (with_reducible show wpList _ _ _ ({ dst := _, op := Op.makeSlice 76 _ _, type := _, pos := _, after := _, guard := _ } :: _) _ _; refine Shut.out ?_)
  show wpList _ _ _ _ _ _
  refine wpList_mkG rfl _ _ rfl _ _ _ n rfl rfl rfl (by omega) ?_
  intro w2 hO2 u2
  simp only [Act.put, List.setIfInBounds_toArray, List.set_cons_zero, List.set_cons_succ]
  have H2 := Hid.of (And.intro hO2 u2)
  clear hO2 u2
  go_wp2
  go_loopw [6, 33] (fun v6 v33 wr => ∃ i : Nat, v33 = .int .i64 (i : Int) ∧ i ≤ n ∧ Hid (∃ qs, OwnL wr w1.heap.size v6 qs ∧ (ls.take i).map rdS = (qs.map (·.1)).map some ∧ qs.length = i ∧ Up w1 wr)) (fun _ v33 _ => n - (intOf v33).toNat)
  case atStart => exact ⟨0, rfl, by omega, [], ⟨H2.out.1, by simp, List.Pairwise.nil⟩, by simp, rfl, H2.out.2⟩
  case round =>
    obtain ⟨i, rfl, hi, hI⟩ := hrel
    obtain ⟨qs, hI1, hI2, hI3, hI4⟩ := hI.out
    have HI := Hid.of (And.intro hI1 (And.intro hI2 (And.intro hI3 hI4)))
    clear hI hI1 hI2 hI3 hI4
    by_cases hlt : i < n
    · have hlt' : (i : Int) < (n : Int) := by omega
      have hltS : i < ls.length := by omega
      have k1 := HI.out.2.2.2.cell (HC.out i hltS)
      have HX := Hid.of (List.take_succ_eq_append_getElem hltS)
      have HM := Hid.of (List.getElem_mem hltS)
      generalize ls[i] = x at *
      go_wp2_with fail
      refine (readSigLine_walk ⟨x.toArray⟩ (by rw [Go.Lib.size_eq]; exact HLL.out x HM.out) wr (HT.out.up (H1.out.trans HI.out.2.2.2)) (WhiteTab_up HW.out (H1.out.trans HI.out.2.2.2))).mono ?_
      rintro e w3 hA
      rw [show (⟨x.toArray⟩ : ByteArray).data.toList = x from rfl] at hA
      rcases hA with ⟨hr, rfl, u3⟩ | ⟨y, a3, c3, hr, rfl, hs3, hb3, u3, hn3⟩
      · have HN := Hid.of (show (¬ ∃ ss, Tl l ss) ∧ Up w w3 from ⟨fun ⟨ss, h⟩ => map_some7 ((HTl.out ss).1 h).2.2 x HM.out hr, (H1.out.trans HI.out.2.2.2).trans u3⟩)
        clear u3 hr k1
        dsimp only
        go_wp2
        go_ret2
        exact .inl ⟨rfl, HN.out.1, HN.out.2.alloc _⟩
      · have H3 := Hid.of (And.intro hr (And.intro hs3 (And.intro hb3 u3)))
        have HN3 := Hid.of hn3
        clear hr hs3 hb3 u3 k1 hn3
        obtain ⟨nb, hnb⟩ : ∃ nb, y.bytes.length = nb := ⟨_, rfl⟩
        rw [hnb]
        dsimp only
        go_wp2_with (with_reducible show wpList _ _ _ ({ dst := _, op := Op.call { callee := Callee.builtin Builtin.append, args := _, argTypes := _ }, type := _, pos := _, after := _, guard := _ } :: _) _ _; refine Shut.out ?_)
        show wpList _ _ _ _ _ _
        subst hnb
        have UU := Hid.of (((Up.refl w3).alloc (.cells #[.string y.name, .int .u32 (y.hash : Int), .slice a3 y.bytes.length c3] 109)).alloc (.cells #[.string y.name, .int .u32 (y.hash : Int), .slice a3 y.bytes.length c3] 109))
        refine wpList_appG2 sgT1 rfl _ _ rfl w1.heap.size _ qs (y, a3, c3) rfl (by exact (HI.out.1.1.up H3.out.2.2.2).up UU.out) ⟨w3.heap.size + 1, 0, none⟩ 1 rfl ?_ (by exact H3.out.2.1.up UU.out) ?_ (by have := HI.out.2.2.1; omega) (Nat.le_trans (HI.out.2.2.2.trans H3.out.2.2.2).size UU.out.size) ?_
        · intro j u hj
          have := cells_new (w3.alloc (.cells #[.string y.name, .int .u32 (y.hash : Int), .slice a3 y.bytes.length c3] 109)) 109 (qc (y, a3, c3)) j u hj
          rw [show (w3.alloc (.cells #[.string y.name, .int .u32 (y.hash : Int), .slice a3 y.bytes.length c3] 109)).heap.size = w3.heap.size + 1 by simp] at this
          exact this
        · intro b hb
          have h1 := H3.out.2.2.1 b hb
          refine ⟨Nat.lt_of_lt_of_le h1.2 UU.out.size, fun h2 => ?_⟩
          have := (World.ownsRow.lt HI.out.1.1.1 b h2).2
          omega
        intro v7 w7 hO7 b7 g7
        simp only [Act.put, List.setIfInBounds_toArray, List.set_cons_zero, List.set_cons_succ]
        have hOL : OwnL w7 w1.heap.size v7 (qs ++ [(y, a3, c3)]) := by
          have hold := (HI.out.1.up H3.out.2.2.2).up UU.out
          refine ⟨hO7, fun q hq => ?_, ?_⟩
          · rcases List.mem_append.1 hq with hq | hq
            · exact (hold.2.1 q hq).by g7 (fun r hr hb => ((hold.1.2 q hq).2 r hb).2 hr)
            · obtain rfl := List.mem_singleton.1 hq
              refine ((HN3.out.up UU.out).base HI.out.2.2.2.size).by g7 (fun r hr hb => ?_)
              have h1 := (H3.out.2.2.1 r hb).1
              have h2 := (World.ownsRow.lt HI.out.1.1.1 r hr).2
              omega
          · rw [List.pairwise_append]
            refine ⟨hold.2.2, List.pairwise_singleton _ _, fun q hq q' hq' k hk hk' => ?_⟩
            obtain rfl := List.mem_singleton.1 hq'
            have h1 := (H3.out.2.2.1 k hk').1
            have h2 := ((HI.out.1.1.2 q hq).2 k hk).1
            omega
        have HN := Hid.of (show ∃ qs, OwnL w7 w1.heap.size v7 qs ∧ (ls.take (i + 1)).map rdS = (qs.map (·.1)).map some ∧ qs.length = i + 1 ∧ Up w1 w7 from ⟨qs ++ [(y, a3, c3)], hOL, by
          rw [HX.out, List.map_append, HI.out.2.1, List.map_append, List.map_append]
          simp [H3.out.1], by rw [List.length_append, HI.out.2.2.1]; rfl, ((HI.out.2.2.2.trans H3.out.2.2.2).trans UU.out).step (Nat.le_refl _) b7⟩)
        clear hO7 b7 g7 hOL UU H3 HX HN3
        generalize y.bytes.length = nb
        go_wp2
        go_roundw
        case rel => exact ⟨i + 1, by go_num, by omega, HN⟩
        case measure => simp [intOf]; omega
    · have hlt' : ¬ (i : Int) < (n : Int) := by omega
      have hin : i = ls.length := by omega
      go_wp2
      go_ret2
      refine .inr ⟨_, qs, rfl, (HTl.out (qs.map (·.1))).2 ⟨fun e => hn0 (by rw [← hn, e]; rfl), by omega, ?_⟩, by exact HI.out.1.base H1.out.size, H1.out.trans HI.out.2.2.2⟩
      have := HI.out.2.1
      rwa [hin, List.take_length] at this
end Go.Proofs.YtaobnnlcfefodaaGreatDoor
namespace Go.Proofs.YtaobnnlcfefodaaGreatDoor
open Go.RowKit TextNum
/-- what Split answers -/
def SA (m : List UInt8) (w : World) (e : Ending) (w' : World) : Prop := ∃ t v ss er, e = .returned (.tuple #[.string t, v, .int .i64 er]) ∧ SR m t ss er ∧ SigL w' v ss ∧ Up w w'
def SA2 (m : List UInt8) (w : World) (e : Ending) (w' : World) : Prop := ∃ t v qs er, e = .returned (.tuple #[.string t, v, .int .i64 er]) ∧ SR m t (qs.map (·.1)) er ∧ OwnL w' w.heap.size v qs ∧ Up w w' ∧ (er ≠ 0 → t = ⟨#[]⟩ ∧ v = .slice none 0 0 ∧ qs = [])
theorem SA2.sa {m : List UInt8} {w : World} {e : Ending} {w' : World} (h : SA2 m w e w') : SA m w e w' := by
  obtain ⟨t, v, qs, er, h1, h2, h3, h4, _⟩ := h
  exact ⟨t, v, qs.map (·.1), er, h1, h2, h3.1.sigL, h4⟩
theorem sigL_nil (w : World) : SigL w (.slice none 0 0) [] := ⟨none, 0, rfl, Nat.le_refl _, .inl rfl⟩
open Classical in
set_option maxRecDepth 100000 in
set_option maxHeartbeats 2000000 in
theorem Split_walk2 (v : Value) (m : List UInt8) (w : World) (hS : Sl w v m) (hT : TabL w) (hW : Go.Lib.WhiteTab 6 w) :
    Calls Tryz.prog 33 #[v] w (SA2 m w) := by
  have HT := Hid.of hT
  have HW := Hid.of hW
  have HC := Hid.of (conv_sl hS)
  clear hT hW
  obtain ⟨a, c, rfl, hc, hS⟩ := hS
  obtain ⟨n, hn⟩ : ∃ n, m.length = n := ⟨_, rfl⟩
  rw [hn] at hc HC ⊢
  clear hS
  go_enter Tryz.func33, Tryz.ntmps33
  by_cases hL : 65536 < n
  · have hL' : (65536 : Int) < (n : Int) := by omega
    go_wp2
    go_ret3
    exact ⟨_, _, [], _, rfl, .inl ⟨rfl, by omega⟩, ownL_nil _ _, Up.refl _, fun _ => ⟨rfl, rfl, rfl⟩⟩
  have hL' : ¬ (65536 : Int) < (n : Int) := by omega
  have hcv := HC.out
  rw [show vs m = .string ⟨m.toArray⟩ from rfl] at hcv
  go_wp2_with fail
  refine (Cut_walk ⟨m.toArray⟩ w).mono ?_
  rintro e w1 ⟨r, rfl, hr, u1⟩
  have HSz := Hid.of (show (⟨m.toArray⟩ : ByteArray).size = n by rw [Go.Lib.size_eq]; exact hn)
  rcases hr with ⟨rfl, hno⟩ | ⟨i, rfl, _, hi, hb, hlast⟩
  · have HN := Hid.of (show (¬ ∃ t ss, Spl m t ss) ∧ Up w w1 from ⟨fun ⟨t, ss, j, hj, _⟩ => by
      rcases hno with h | h
      · have := HSz.out; omega
      · exact h j hj, u1⟩)
    clear hno u1
    dsimp only
    go_wp2
    go_ret3
    exact ⟨_, _, [], _, rfl, .inr (.inl ⟨rfl, by omega, HN.out.1⟩), ownL_nil _ _, HN.out.2, fun _ => ⟨rfl, rfl, rfl⟩⟩
  have e1 : (⟨m.toArray⟩ : ByteArray).extract 0 (i + 1) = ⟨(m.take (i + 1)).toArray⟩ := by
    refine ba_list7 ?_
    simp [ByteArray.data_extract]
  have e2 : (⟨m.toArray⟩ : ByteArray).extract (i + 2) (⟨m.toArray⟩ : ByteArray).size = ⟨(m.drop (i + 2)).toArray⟩ := by
    refine ba_list7 ?_
    rw [HSz.out]
    simp only [ByteArray.data_extract, List.extract_toArray, ← hn]
    rw [List.extract_eq_take_drop, List.take_of_length_le (by rw [List.length_drop]; omega)]
  rw [e1, e2]
  rw [HSz.out] at hi
  rw [show (⟨m.toArray⟩ : ByteArray).data.toList = m from rfl] at hb hlast
  clear e1 e2
  have HB := Hid.of (show (∀ t ss, Spl m t ss ↔ t.data.toList = m.take (i + 1) ∧ okT t ∧ Tl (m.drop (i + 2)) ss) ∧ Up w w1 from ⟨fun t ss => ⟨fun ⟨j, hj, hl, r⟩ => by
      obtain rfl : i = j := by
        rcases Nat.lt_trichotomy i j with h | h | h
        · exact absurd hj (hlast _ h)
        · exact h
        · exact absurd hb (hl _ h)
      exact r, fun r => ⟨i, hb, hlast, r⟩⟩, u1⟩)
  clear hb hlast u1
  obtain ⟨t, HTT⟩ : ∃ t, Hid ((⟨(m.take (i + 1)).toArray⟩ : ByteArray) = t ∧ t.data.toList = m.take (i + 1)) := ⟨_, Hid.of ⟨rfl, rfl⟩⟩
  rw [HTT.out.1]
  dsimp only
  go_wp2_with fail
  refine (isNoteText_walk t (by rw [Go.Lib.size_eq, HTT.out.2, List.length_take]; omega) w1).mono ?_
  rintro e w2 ⟨rfl, u2⟩
  have H2 := Hid.of (HB.out.2.trans u2)
  clear u2
  by_cases hk : okT t
  rotate_left
  · rw [decide_eq_false hk]
    have HN := Hid.of (show ¬ ∃ t ss, Spl m t ss from fun ⟨t', ss, h⟩ => by
      have h3 := (HB.out.1 t' ss).1 h
      obtain rfl : t' = t := ba_list7 (h3.1.trans HTT.out.2.symm)
      exact hk h3.2.1)
    clear hk
    dsimp only
    go_wp2
    go_ret3
    exact ⟨_, _, [], _, rfl, .inr (.inl ⟨rfl, by omega, HN.out⟩), ownL_nil _ _, H2.out, fun _ => ⟨rfl, rfl, rfl⟩⟩
  rw [decide_eq_true hk]
  have HK := Hid.of hk
  clear hk
  obtain ⟨tl, HTL⟩ : ∃ tl, Hid ((⟨(m.drop (i + 2)).toArray⟩ : ByteArray) = tl ∧ tl.data.toList = m.drop (i + 2)) := ⟨_, Hid.of ⟨rfl, rfl⟩⟩
  rw [HTL.out.1]
  dsimp only
  go_wp2_with fail
  refine (readSigLines_walk tl w2 (HT.out.up H2.out) (WhiteTab_up HW.out H2.out)).mono ?_
  rintro e w3 hA
  rw [HTL.out.2] at hA
  rcases hA with ⟨rfl, hno, u3⟩ | ⟨v3, qs, rfl, htl, hsl, u3⟩
  · have HN := Hid.of (show (¬ ∃ t ss, Spl m t ss) ∧ Up w w3 from ⟨fun ⟨t', ss, h⟩ => hno ⟨ss, ((HB.out.1 t' ss).1 h).2.2⟩, H2.out.trans u3⟩)
    clear hno u3
    dsimp only
    go_wp2
    go_ret3
    exact ⟨_, _, [], _, rfl, .inr (.inl ⟨rfl, by omega, HN.out.1⟩), ownL_nil _ _, HN.out.2, fun _ => ⟨rfl, rfl, rfl⟩⟩
  · have HN := Hid.of (show Spl m t (qs.map (·.1)) ∧ OwnL w3 w.heap.size v3 qs ∧ Up w w3 from ⟨(HB.out.1 t _).2 ⟨HTT.out.2, HK.out, htl⟩, hsl.base H2.out.size, H2.out.trans u3⟩)
    clear htl hsl u3
    dsimp only
    go_wp2
    go_ret3
    exact ⟨_, _, qs, _, rfl, .inr (.inr ⟨rfl, by omega, HN.out.1⟩), by exact HN.out.2.1, HN.out.2.2, fun h => absurd rfl h⟩
theorem Split_walk (v : Value) (m : List UInt8) (w : World) (hS : Sl w v m) (hT : TabL w) (hW : Go.Lib.WhiteTab 6 w) :
    Calls Tryz.prog 33 #[v] w (SA m w) := (Split_walk2 v m w hS hT hW).mono fun _ _ h => h.sa
end Go.Proofs.YtaobnnlcfefodaaGreatDoor
namespace Go.Proofs.YtaobnnlcfefodaaGreatDoor
open Go.RowKit TextNum
theorem last_get (s : ByteArray) (h : 0 < s.size) : s.data.toList.getLast? = some 10 ↔ ((s[s.size - 1]'(by omega)).toNat : Int) = 10 := by
  rw [sget', List.getLast?_eq_getElem?]
  have e : s.size = s.data.toList.length := Go.Lib.size_eq s
  have hl : s.data.toList.length - 1 < s.data.toList.length := by omega
  rw [List.getElem?_eq_getElem hl, Option.some.injEq]
  have e2 : s.data.toList[s.size - 1]'(by omega) = s.data.toList[s.data.toList.length - 1] := rfl
  rw [e2]
  constructor
  · intro h; rw [h]; rfl
  · intro h; apply UInt8.toNat_inj.1; have : (10 : UInt8).toNat = 10 := rfl; omega
end Go.Proofs.YtaobnnlcfefodaaGreatDoor
namespace Go.Proofs.YtaobnnlcfefodaaGreatDoor
open Go.RowKit TextNum
theorem own_nil7 (w : World) (B : Nat) : Own w B (.slice none 0 0) [] := World.ownsRow_nil w B 5 1
theorem ownG_nil7 (w : World) (B : Nat) (e : TypeId) : OwnG w B e (.slice none 0 0) [] := ⟨World.ownsRow_nil w B e 3, by simp⟩
end Go.Proofs.YtaobnnlcfefodaaGreatDoor
