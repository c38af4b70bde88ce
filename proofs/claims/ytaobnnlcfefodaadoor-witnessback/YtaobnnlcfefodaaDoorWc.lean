import Derived.Test.YtaobnnlcfefodaaDoorWb
import Derived.Test.YtaobnnlcfefodaaDoorBf
import Derived.Test.YtaobnnlcfefodaaDoorHq
import Derived.Deep.MidRow
import Derived.Deep.RegionHeld3
namespace Go.Proofs.YtaobnnlcfefodaaDoor
open Go.RowKit TextNum
theorem run_app_slM {w : World} {B : Nat} {v : Value} {l : List UInt8} (sa : Addr) (sn sc : Nat) (m : List UInt8) (ty : TypeId) (hm : m.length = sn) (hcell : ∀ j u, (cb m)[j]? = some u → w.cell? (sa.add j) = some u) (hown : OwnM w B v l) (hn : l.length + m.length ≤ 140737488355328) (hB : B ≤ w.heap.size) :
    ∃ v' w', (Builtin.append_ #[23, 23] ty #[v, .slice (some sa) sn sc]).run Tryd.prog w = .ok v' w' ∧ OwnM w' B v' (l ++ m) ∧ Below B w w' := by
  subst hm
  obtain ⟨i, hi, hz, hsize, hby⟩ := info_parts Tryd.info8
  have ht : Tryd.prog.underlying 23 = some (.slice 5) := Tryd.underlying23
  have hs : Src Tryd.prog i.size 23 (.slice (some sa) m.length sc) m.length (cb m) w := Src.ofSlice w ht sa m.length sc (cb m) (by rw [cb_length, hsize, Nat.mul_one]) hcell (cb_one m)
  have hlen : (cb l ++ cb m).length = l.length + m.length := by simp [cb]
  have h0 := hown
  obtain ⟨g, cap, cur, fr, rfl, hbg, hg, hfr, hnc, hcm, hcs, htake⟩ := hown
  by_cases hroom : l.length + m.length ≤ cap
  · have hfit : l.length + (cb m).length ≤ cur.size := by rw [hcs, cb_length]; omega
    have hst := run_storeCells_mk Tryd.prog g (l.length * i.size) 5 fr (cb m) 0 cur w hg (by rw [hcs]; exact hfr) (by rw [hsize]; simpa using hfit) (cb_one m)
    simp only [Nat.add_zero] at hst
    have hr : (Builtin.append_ #[23, 23] ty #[.slice (some ⟨g, 0, none⟩) l.length cap, .slice (some sa) m.length sc]).run Tryd.prog w =
        .ok (.slice (some ⟨g, 0, none⟩) (l.length + m.length) cap) (w.setRow g (cur.toList.take (l.length * i.size) ++ cb m ++ cur.toList.drop (l.length * i.size + (cb m).length)).toArray) := by
      simp [Builtin.append_, run_underlying ht, sizeOf, typeInfo, hi, hs.len, hroom, hs.cells, Addr.add_lit, hst]
    refine ⟨_, _, hr, ⟨g, cap, _, fr, by rw [List.length_append], hbg, setRow_heap w g cur _ 5 _ hg, hfr, by rw [List.length_append]; exact hroom, hcm, ?_, ?_⟩, ⟨rfl, rfl, rfl, by simp, fun k hk => setRow_other w g k _ (by omega)⟩⟩
    · simp only [List.size_toArray, List.length_append, List.length_take, List.length_drop, Array.length_toList, cb_length, hsize]
      omega
    · rw [hsize, Nat.mul_one, htake, cb_append, List.length_append, ← hlen]
      exact List.take_left
  · obtain ⟨_, holds⟩ := h0.cells
    have hold := run_firstCells_some (P := Tryd.prog) w.drew i.size l.length ⟨g, 0, none⟩ l.length cap (cb l) (by rw [hsize, cb_length, Nat.mul_one]) (fun j u hj => by rw [add_plain, Nat.zero_add]; exact (World.cell?_drew _ _).trans (holds j u hj))
    have hr := run_append_grow_src (P := Tryd.prog) w 23 23 ty 5 i _ ht hi hz (some ⟨g, 0, none⟩) l.length cap (cb l) hold _ m.length (cb m) hs (by omega) (by omega) (growslice_fits (by omega) (by rw [hby]; omega))
    have hge := grownCap_ge w (l.length + m.length) cap 5
    have hcm2 : grownCap w (l.length + m.length) cap 5 ≤ maxLen := grownCap_le_maxLen w _ cap _ (by unfold maxLen; omega)
    refine ⟨_, _, hr, ⟨w.heap.size, _, _, (0, 0), by rw [List.length_append], hB, heap_alloc_new w.drew _, .inl rfl, by rw [List.length_append]; exact hge, hcm2, ?_, ?_⟩, Below.alloc (Below.drew (Below.refl B w)) hB _⟩
    · simp only [Array.size_append, List.size_toArray, size_zeroCells, hlen]
      simp [Value.cells]
      omega
    · simp only [Array.toList_append, cb_append, List.length_append]
      rw [← hlen]
      exact List.take_left
theorem wpList_appSlM {ops : Array Oper} {rest : List Oper} {o : Oper} {a : Act} {w : World} {Q : Exit → Act → World → Prop} (hgd : o.guard = none) (s x : Operand)
    (ho : o.op = .call { callee := .builtin .append, args := #[s, x], argTypes := #[23, 23] }) (B : Nat) (v vy : Value) (l m : List UInt8) (hs : a.eval s = v) (hown : OwnM w B v l)
    (hx : a.eval x = vy) (hSl : Sl w vy m) (hm0 : m ≠ []) (hn : l.length + m.length ≤ 140737488355328) (hB : B ≤ w.heap.size)
    (h : ∀ v' w', OwnM w' B v' (l ++ m) → Below B w w' → wpList Tryd.prog ops Q rest (a.put o.dst v') w') : wpList Tryd.prog ops Q (o :: rest) a w := by
  obtain ⟨ay, cy, rfl, k1, k2⟩ := hSl
  rcases k2 with h0 | ⟨b, off, rfl, _, hc⟩
  · exact absurd h0 hm0
  · refine wpList_plain hgd fun K hK => ?_
    obtain ⟨v', w', hr, h2, h3⟩ := run_app_slM ⟨b, off, none⟩ m.length cy m o.type rfl (fun j u hu => by
      have hj : j < m.length := by have := (List.getElem?_eq_some_iff.1 hu).1; rwa [cb_length] at this
      rw [add_plain, hc j hj]
      rw [cb_get hj] at hu
      exact hu) hown hn hB
    unfold Oper.wp execOp
    simp only [ho, resolve, invoke, builtin, Sem.run_bind, Sem.run_pure, Result.andThen_ok, List.map_toArray, List.map_cons, List.map_nil, hs, hx, hr]
    exact hK _ _ (h v' w' h2 h3)
/-- a list of hashes that is read -/
def HL (w : World) (v : Value) (hs : List (List UInt8)) : Prop := ∃ a c, v = .slice a hs.length c ∧ hs.length ≤ c ∧ ∀ j (h : j < hs.length), hs[j].length = 32 ∧ ∃ b o, a = some ⟨b, o, none⟩ ∧ b < w.heap.size ∧ w.rangeAt b (o + j * 32) (cb hs[j])
theorem range_upW {w w' : World} {b o : Nat} {vs : List Value} (h : w.rangeAt b o vs) (u : Up w w') : w'.rangeAt b o vs := fun i v hv => u.cell (h i v hv)
theorem HL.up {w w' : World} {v : Value} {hs : List (List UInt8)} (h : HL w v hs) (u : Up w w') : HL w' v hs := by
  obtain ⟨a, c, h1, h2, h3⟩ := h
  refine ⟨a, c, h1, h2, fun j hj => ?_⟩
  obtain ⟨h4, b, o, h5, h6, h7⟩ := h3 j hj
  exact ⟨h4, b, o, h5, Nat.lt_of_lt_of_le h6 u.size, range_upW h7 u⟩
theorem nt_ne {m : List UInt8} (h : isNt m) : m ≠ [] := by
  obtain ⟨_, t, ss, i, hb, _⟩ := nt_iff.1 h
  rintro rfl
  simp [bk] at hb
/-- the ask so far -/
def fmP (o : Int) (hs : List (List UInt8)) (i : Nat) : List UInt8 := OLD ++ Go.Lib.itoa o ++ [10] ++ (hs.take i).flatMap hln
set_option maxRecDepth 100000 in
set_option maxHeartbeats 4000000 in
theorem FormatAsk_yes (w : World) (o : Int) (pv hv : Value) (hs : List (List UInt8)) (m : List UInt8) (hP : HL w pv hs) (hM : Sl w hv m) (hT : TabL w) (hW : Go.Lib.WhiteTab 5 w) (hG : GN w)
    (o0 : 0 ≤ o) (o1 : o ≤ 281474976710656) (hn : hs.length ≤ 64) (hm : isNt m) :
    Calls Tryd.prog 4 #[.int .i64 o, pv, hv] w fun e w' => ∃ v, e = .returned (.tuple #[v, .int .i64 0]) ∧ OwnM w' w.heap.size v (fmA o hs m) ∧ Up w w' := by
  have hml := (nt_iff.1 hm).1
  have HM := Hid.of hM
  have HT := Hid.of hT
  have HG := Hid.of hG
  have HNE := Hid.of (nt_ne hm)
  have hI := isNote_walk hv m w hM hT hW true ⟨fun _ => hm, fun _ => rfl⟩
  obtain ⟨hc, mc, rfl, hmc, _⟩ := id hM
  obtain ⟨pa, pc, rfl, hpc, hpx⟩ := id hP
  have HP := Hid.of hP
  have HPX := Hid.of hpx
  obtain ⟨n, hnn⟩ : ∃ n, hs.length = n := ⟨_, rfl⟩
  obtain ⟨k, hk⟩ : ∃ k, m.length = k := ⟨_, rfl⟩
  have HN := Hid.of (And.intro hnn hk)
  have HML := Hid.of hml
  rw [hnn] at hpc HP hn ⊢
  rw [hk] at hmc hI HM hml ⊢
  have z0 : ¬ o < 0 := by omega
  have z1 : ¬ (281474976710656 : Int) < o := by omega
  have z2 : ¬ (64 : Int) < (n : Int) := by omega
  have z3 : ¬ (65536 : Int) < (k : Int) := by omega
  clear hM hT hW hG hm hP hpx hnn hk
  go_enter Tryd.func4, Tryd.ntmps4
  go_wp2_with fail
  refine hI.mono ?_
  rintro e w1 ⟨rfl, u1⟩
  have HU1 := Hid.of u1
  clear hI u1
  dsimp only
  go_wp2_with fail
  refine (FormatNumber_walk o (by omega) (by omega) w1 (HG.out.up HU1.out)).mono ?_
  rintro e w2 ⟨rfl, u2⟩
  have HU2 := Hid.of (HU1.out.trans u2)
  clear u2 HU1
  obtain ⟨sO, hsO⟩ : ∃ s, (⟨(Go.Lib.itoa o).toArray⟩ : ByteArray) = s := ⟨_, rfl⟩
  have kO : sO.size ≤ 20 := by rw [← hsO, Go.Lib.size_eq]; exact (itoa_len o (by omega) (by omega)).1
  obtain ⟨s1, hs1⟩ : ∃ s, (⟨#[111, 108, 100, 32]⟩ : ByteArray) ++ sO = s := ⟨_, rfl⟩
  have k1 : s1.size ≤ 24 := by rw [← hs1, ByteArray.size_append, show (⟨#[111, 108, 100, 32]⟩ : ByteArray).size = 4 from rfl]; omega
  obtain ⟨s2, hs2⟩ : ∃ s, s1 ++ (⟨#[10]⟩ : ByteArray) = s := ⟨_, rfl⟩
  have k2 : s2.size ≤ 25 := by rw [← hs2, ByteArray.size_append, show (⟨#[10]⟩ : ByteArray).size = 1 from rfl]; omega
  have HE := Hid.of (show s2.data.toList = fmP o hs 0 by
    rw [← hs2, ← hs1, ← hsO]
    simp [fmP, OLD, ByteArray.data_append])
  rw [show vs (Go.Lib.itoa o) = .string sO from congrArg Value.string hsO]
  clear hsO
  dsimp only
  go_wp2_with (with_reducible show wpList _ _ _ ({ dst := _, op := Op.convert 9 23 _, type := _, pos := _, after := _, guard := _ } :: _) _ _; refine Shut.out ?_)
  show wpList _ _ _ _ _ _
  clear hs1 hs2 k1 kO
  refine wpList_conv rfl _ rfl s2 (by omega) rfl ?_
  intro v3 w3 hO3 u3
  have HO3 := Hid.of (show OwnM w3 w.heap.size v3 (fmP o hs 0) ∧ Up w w3 from ⟨by rw [← HE.out]; exact hO3.base HU2.out.size, HU2.out.trans u3⟩)
  clear hO3 u3 HU2 HE k2
  simp only [Act.put, List.setIfInBounds_toArray, List.set_cons_zero, List.set_cons_succ]
  go_wp2
  go_loopw [8, 35] (fun v8 v35 wr => ∃ i : Nat, v35 = .int .i64 (i : Int) ∧ i ≤ n ∧ Hid (OwnM wr w.heap.size v8 (fmP o hs i) ∧ Up w wr)) (fun _ v35 _ => n - (intOf v35).toNat)
  case atStart => exact ⟨0, rfl, by omega, HO3⟩
  case round =>
    clear HO3
    obtain ⟨i, rfl, hi, HK⟩ := hrel
    by_cases hlt : i < n
    · have hltz : (i : Int) < (n : Int) := by omega
      have hpcz : (n : Int) ≤ (pc : Int) := by omega
      have hiw : IntKind.i64.wrap ((i : Int) + 1) = (i : Int) + 1 := by rw [IntKind.wrap_i64]; omega
      have hil : i < hs.length := by rw [HN.out.1]; exact hlt
      obtain ⟨hx32, b, off, rfl, hbl, hrg⟩ := HPX.out i hil
      obtain ⟨x, hx⟩ : ∃ x, hs[i] = x := ⟨_, rfl⟩
      rw [hx] at hx32 hrg
      have HX := Hid.of (show fmP o hs (i + 1) = fmP o hs i ++ hln x by
        unfold fmP
        rw [List.take_succ_eq_append_getElem hil, hx]
        simp)
      have hcl : (cb x).length = 32 := by rw [cb_length]; exact hx32
      have HRG := Hid.of (range_upW hrg HK.out.2)
      clear hx hrg
      go_wp2_with (with_reducible show wpList _ _ _ ({ dst := _, op := Op.load 30 _, type := _, pos := _, after := _, guard := _ } :: _) _ _; refine Shut.out ?_)
      show wpList _ _ _ _ _ _
      refine wpList_load_mid rfl _ _ rfl b (off + i * 32) rfl (cb x) _ HRG.out Tryd.underlying30 rfl (by rw [hcl]; exact infoHs) ?_
      simp only [Act.put, List.setIfInBounds_toArray, List.set_cons_zero, List.set_cons_succ]
      go_wp2_with (with_reducible show wpList _ _ _ ({ dst := _, op := Op.store 30 _ _, type := _, pos := _, after := _, guard := _ } :: _) _ _; refine Shut.out ?_)
      show wpList _ _ _ _ _ _
      change wpList _ _ _ _ _ (wr.alloc (Obj.cells (cb zH).toArray 30))
      have ht := there_new wr (cb zH) 30
      have hu0 := (Up.refl wr).alloc (Obj.cells (cb zH).toArray 30)
      have hsz0 : wr.heap.size < (wr.alloc (Obj.cells (cb zH).toArray 30)).heap.size := by rw [World.alloc]; simp
      generalize wr.alloc (Obj.cells (cb zH).toArray 30) = W4 at *
      refine wpList_store_mid rfl _ _ _ rfl wr.heap.size 0 (cb x).toArray rfl rfl (by rw [show (cb x).toArray.size = 32 from hcl]; exact ht) (by rw [show (cb x).toArray.size = 32 from hcl]; exact infoHs) (all_oneCell_toArray (cb_one _)) ?_
      simp only [Act.put]
      have HU5 := Hid.of (up_setCells (W := wr) (Nat.le_refl _) (cb x).toArray.toList 0 hu0)
      have HS5 := Hid.of (show Sl (World.setCells W4 wr.heap.size 0 (cb x).toArray.toList) (.slice (some ⟨wr.heap.size, 0, none⟩) 32 32) x from ⟨_, 32, by rw [hx32], by rw [hx32]; omega, .inr ⟨wr.heap.size, 0, rfl, by rw [setCells_size]; exact hsz0, fun j hj => by
        have h9 : (World.setCells W4 wr.heap.size 0 (cb x)).rangeAt wr.heap.size 0 (cb x) := World.rangeAt_setCells_same W4 wr.heap.size 0 (cb x) (by rw [hcl]; exact ht)
        exact h9 j _ (cb_get hj)⟩⟩)
      generalize World.setCells W4 wr.heap.size 0 (cb x).toArray.toList = W5 at *
      clear ht hu0 hsz0
      have HTU := Hid.of (HK.out.2.trans HU5.out)
      go_wp2_with fail
      refine (EncodeBase64_walk _ x W5 (HT.out.up HTU.out) HS5.out (by omega)).mono ?_
      rintro e w6 ⟨rfl, u6⟩
      have HU6 := Hid.of (HU5.out.trans u6)
      clear u6 HU5 HS5 HTU
      obtain ⟨sB, hsB⟩ : ∃ s, (⟨(b64E x).toArray⟩ : ByteArray) = s := ⟨_, rfl⟩
      have kB : sB.size ≤ 44 := by rw [← hsB, Go.Lib.size_eq]; show (b64E x).length ≤ 44; rw [b64E_length, hx32]; decide
      obtain ⟨sL, hsL⟩ : ∃ s, sB ++ (⟨#[10]⟩ : ByteArray) = s := ⟨_, rfl⟩
      have kL : sL.size ≤ 45 := by rw [← hsL, ByteArray.size_append, show (⟨#[10]⟩ : ByteArray).size = 1 from rfl]; omega
      have HSL := Hid.of (show sL = ⟨(hln x).toArray⟩ by
        rw [← hsL, ← hsB]
        refine ba_list7 ?_
        simp [hln, ByteArray.data_append])
      rw [show vs (b64E x) = .string sB from congrArg Value.string hsB]
      clear hsB
      dsimp only
      have HFL := Hid.of (show (fmP o hs i).length ≤ 4096 by
        have h1 := hln_len (hs.take i) (fun h hh => by
          obtain ⟨j, hj, rfl⟩ := List.getElem_of_mem (List.mem_of_mem_take hh)
          exact (HPX.out j hj).1)
        have h2 := (itoa_len o (by omega) (by omega)).1
        have h3 : (hs.take i).length ≤ 64 := by rw [List.length_take, HN.out.1]; omega
        unfold fmP
        simp only [List.length_append, h1, OLD, List.length_cons, List.length_nil]
        omega)
      have HHL := Hid.of (show (hln x).length = 45 by simp only [hln, List.length_append, b64E_length, hx32, List.length_cons, List.length_nil])
      go_wp2_with (with_reducible show wpList _ _ _ ({ dst := _, op := Op.call { callee := Callee.builtin Builtin.append, args := _, argTypes := _ }, type := _, pos := _, after := _, guard := _ } :: _) _ _; refine Shut.out ?_)
      show wpList _ _ _ _ _ _
      refine wpList_appsM rfl _ _ rfl w.heap.size _ (fmP o hs i) (hln x) rfl (HK.out.1.up HU6.out) (by rw [← HSL.out]; rfl) (by have := HFL.out; rw [HHL.out]; omega) (HK.out.2.trans HU6.out).size ?_
      intro v7 w7 hO7 b7
      simp only [Act.put, List.setIfInBounds_toArray, List.set_cons_zero, List.set_cons_succ]
      have HNX := Hid.of (show OwnM w7 w.heap.size v7 (fmP o hs (i + 1)) ∧ Up w w7 from ⟨by rw [HX.out]; exact hO7, (HK.out.2.trans HU6.out).step (Nat.le_refl _) b7⟩)
      clear hO7 b7 HU6 HX HK HRG hsL kB kL
      go_wp2
      go_roundw
      case rel => exact ⟨i + 1, by go_num, by omega, HNX⟩
      case measure => simp [intOf]; omega
    · have hltz : ¬ (i : Int) < (n : Int) := by omega
      obtain rfl : i = n := by omega
      have HFL := Hid.of (show (fmP o hs i).length ≤ 4096 by
        have h1 := hln_len (hs.take i) (fun h hh => by
          obtain ⟨j, hj, rfl⟩ := List.getElem_of_mem (List.mem_of_mem_take hh)
          exact (HPX.out j hj).1)
        have h2 := (itoa_len o (by omega) (by omega)).1
        have h3 : (hs.take i).length ≤ 64 := by rw [List.length_take, HN.out.1]; omega
        unfold fmP
        simp only [List.length_append, h1, OLD, List.length_cons, List.length_nil]
        omega)
      go_wp2_with (with_reducible show wpList _ _ _ ({ dst := _, op := Op.call { callee := Callee.builtin Builtin.append, args := _, argTypes := _ }, type := _, pos := _, after := _, guard := _ } :: _) _ _; refine Shut.out ?_)
      show wpList _ _ _ _ _ _
      refine wpList_appsM rfl _ _ rfl w.heap.size _ (fmP o hs i) [10] rfl HK.out.1 rfl (by have := HFL.out; simp only [List.length_cons, List.length_nil]; omega) HK.out.2.size ?_
      intro v7 w7 hO7 b7
      simp only [Act.put, List.setIfInBounds_toArray, List.set_cons_zero, List.set_cons_succ]
      have H7 := Hid.of (show OwnM w7 w.heap.size v7 (fmP o hs i ++ [10]) ∧ Up w w7 from ⟨hO7, HK.out.2.step (Nat.le_refl _) b7⟩)
      clear hO7 b7 HK
      go_wp2_with (with_reducible show wpList _ _ _ ({ dst := _, op := Op.call { callee := Callee.builtin Builtin.append, args := _, argTypes := _ }, type := _, pos := _, after := _, guard := _ } :: _) _ _; refine Shut.out ?_)
      show wpList _ _ _ _ _ _
      refine wpList_appSlM rfl _ _ rfl w.heap.size _ _ (fmP o hs i ++ [10]) m rfl H7.out.1 rfl (HM.out.up H7.out.2) HNE.out (by have := HFL.out; have := HN.out.2; simp only [List.length_append, List.length_cons, List.length_nil]; omega) H7.out.2.size ?_
      intro v8 w8 hO8 b8
      simp only [Act.put, List.setIfInBounds_toArray, List.set_cons_zero, List.set_cons_succ]
      have H8 := Hid.of (show OwnM w8 w.heap.size v8 (fmA o hs m) ∧ Up w w8 from ⟨by
        have e : fmA o hs m = fmP o hs i ++ [10] ++ m := by
          unfold fmA fmP
          rw [← HN.out.1, List.take_length]
          simp
        rw [e]
        exact hO8, H7.out.2.step (Nat.le_refl _) b8⟩)
      clear hO8 b8 H7
      go_wp2
      go_ret2
      exact ⟨_, rfl, H8.out⟩
set_option maxRecDepth 100000 in
set_option maxHeartbeats 2000000 in
/-- FormatAsk of anything -/
theorem FormatAsk_any (w : World) (o : Int) (pv hv : Value) (hs : List (List UInt8)) (m : List UInt8) (hP : HL w pv hs) (hM : Sl w hv m) (hT : TabL w) (hW : Go.Lib.WhiteTab 5 w) (hG : GN w) :
    Calls Tryd.prog 4 #[.int .i64 o, pv, hv] w fun e w' => ∃ v er, e = .returned (.tuple #[v, .int .i64 er]) ∧ Up w w' ∧ ((er = 0 ∧ VA o hs m ∧ OwnM w' w.heap.size v (fmA o hs m)) ∨ (er ≠ 0 ∧ ¬ VA o hs m)) := by
  have h32 : ∀ h ∈ hs, h.length = 32 := fun h hh => by
    obtain ⟨a, c, _, _, hx⟩ := hP
    obtain ⟨j, hj, rfl⟩ := List.getElem_of_mem hh
    exact (hx j hj).1
  by_cases z : 0 ≤ o ∧ o ≤ 281474976710656 ∧ hs.length ≤ 64 ∧ isNt m
  · refine (FormatAsk_yes w o pv hv hs m hP hM hT hW hG z.1 z.2.1 z.2.2.1 z.2.2.2).mono ?_
    rintro e w' ⟨v, rfl, h1, h2⟩
    exact ⟨v, 0, rfl, h2, .inl ⟨rfl, ⟨z.1, z.2.1, z.2.2.1, h32, z.2.2.2⟩, h1⟩⟩
  have HV := Hid.of (show ¬ VA o hs m from fun h => z ⟨h.o0, h.o1, h.n, h.m⟩)
  have hI := fun hb : ¬ isNt m => isNote_walk hv m w hM hT hW false ⟨(fun h => by cases h), fun h => (hb h).elim⟩
  obtain ⟨hc, mc, rfl, hmc, _⟩ := hM
  obtain ⟨pa, pc, rfl, hpc, _⟩ := hP
  obtain ⟨n, hnn⟩ : ∃ n, hs.length = n := ⟨_, rfl⟩
  obtain ⟨k, hk⟩ : ∃ k, m.length = k := ⟨_, rfl⟩
  rw [hnn] at z ⊢
  rw [hk] at hI ⊢
  clear hT hW hG h32 hmc hpc hnn
  by_cases z0 : o < 0
  · go_enter Tryd.func4, Tryd.ntmps4
    go_wp2
    go_ret2
    exact ⟨_, _, rfl, Up.refl _, .inr ⟨by decide, HV.out⟩⟩
  by_cases z1 : (281474976710656 : Int) < o
  · go_enter Tryd.func4, Tryd.ntmps4
    go_wp2
    go_ret2
    exact ⟨_, _, rfl, Up.refl _, .inr ⟨by decide, HV.out⟩⟩
  by_cases z2 : (64 : Int) < (n : Int)
  · go_enter Tryd.func4, Tryd.ntmps4
    go_wp2
    go_ret2
    exact ⟨_, _, rfl, Up.refl _, .inr ⟨by decide, HV.out⟩⟩
  by_cases z3 : (65536 : Int) < (k : Int)
  · go_enter Tryd.func4, Tryd.ntmps4
    go_wp2
    go_ret2
    exact ⟨_, _, rfl, Up.refl _, .inr ⟨by decide, HV.out⟩⟩
  have hb : ¬ isNt m := fun hb => z ⟨by omega, by omega, by omega, hb⟩
  replace hI := hI hb
  clear z hb hk
  go_enter Tryd.func4, Tryd.ntmps4
  go_wp2_with fail
  refine hI.mono ?_
  rintro e w1 ⟨rfl, u1⟩
  have HU1 := Hid.of u1
  clear hI u1
  dsimp only
  go_wp2
  go_ret2
  exact ⟨_, _, rfl, HU1.out, .inr ⟨by decide, HV.out⟩⟩
end Go.Proofs.YtaobnnlcfefodaaDoor
