import Derived.Test.YtaobnnlcfefodaaGreatDoorWa
import Derived.Test.YtaobnnlcfefodaaGreatDoorK8
import Derived.Test.YtaobnnlcfefodaaGreatDoorNp
import Derived.Shelf.Small.Wraps
import Derived.Test.YtaobnnlcfefodaaGreatDoorBf
import Derived.Test.YtaobnnlcfefodaaGreatDoorHq
import Derived.Deep.MidRow
import Derived.Deep.RegionHeld3
import Derived.Test.YtaobnnlcfefodaaGreatDoorLx
namespace Go.Proofs.YtaobnnlcfefodaaGreatDoor
open Go.RowKit TextNum
/-- all that the calls read of the variables -/
structure GW (w : World) : Prop where
  tl : TabL w
  wt : Go.Lib.WhiteTab 6 w
  gn : GN w
set_option maxRecDepth 100000 in
theorem isNote_walk (v : Value) (m : List UInt8) (w : World) (hS : Sl w v m) (hT : TabL w) (hW : Go.Lib.WhiteTab 6 w) (bb : Bool) (hbb : bb = true ↔ isNt m) : Calls Tryz.prog 20 #[v] w fun e w' => e = .returned (.bool bb) ∧ Up w w' := by
  have hSp := Split_walk v m w hS hT hW
  clear hS hT hW
  go_enter Tryz.func20, Tryz.ntmps20
  go_wp2_with fail
  refine hSp.mono ?_
  rintro e w1 ⟨t, sv, ss, er, rfl, hr, _, u1⟩
  have HU := Hid.of u1
  clear hSp u1
  dsimp only
  rcases hr with ⟨rfl, h⟩ | ⟨rfl, h, hn⟩ | ⟨rfl, h, hy⟩
  · have e1 := Hid.of (And.intro (show bb = false from Bool.eq_false_iff.2 fun hb => by
      have := (nt_iff.1 (hbb.1 hb)).1
      omega) trivial)
    clear h hbb
    go_wp2
    go_ret
    exact ⟨by rw [e1.out.1]; rfl, HU.out⟩
  · have e1 := Hid.of (And.intro (show bb = false from Bool.eq_false_iff.2 fun hb => (hn (nt_iff.1 (hbb.1 hb)).2).elim) trivial)
    clear h hn hbb
    go_wp2
    go_ret
    exact ⟨by rw [e1.out.1]; rfl, HU.out⟩
  · have e1 := Hid.of (And.intro (show bb = true from hbb.2 (nt_iff.2 ⟨h, _, _, hy⟩)) trivial)
    clear h hy hbb
    go_wp2
    go_ret
    exact ⟨by rw [e1.out.1]; rfl, HU.out⟩
/-- the number in the first line -/
def szI (l : List UInt8) : Int × Bool := if Go.Lib.hasPrefix l OLD = true then ((prs (l.drop 4) 281474976710656).1, decide ((prs (l.drop 4) 281474976710656).2 = 0)) else (0, false)
theorem trim_old {l : List UInt8} (h : Go.Lib.hasPrefix l OLD = true) : Go.Lib.trimPrefix l OLD = l.drop 4 := by
  unfold Go.Lib.trimPrefix
  rw [if_pos h]
  rfl
set_option maxRecDepth 100000 in
theorem sizeIn_walk (s : ByteArray) (w : World) (hG : GN w) : Calls Tryz.prog 28 #[.string s] w fun e w' => e = .returned (.tuple #[.int .i64 (szI s.data.toList).1, .bool (szI s.data.toList).2]) ∧ Up w w' := by
  have HG := Hid.of hG
  clear hG
  go_enter Tryz.func28, Tryz.ntmps28
  go_wp2_with fail
  refine (Any.strings_CutPrefix Tryz.lays103 s ⟨#[111, 108, 100, 32]⟩ _).mono ?_
  rintro e w' ⟨rfl, hw⟩
  obtain rfl := hw.symm
  clear hw
  rw [show (⟨#[111, 108, 100, 32]⟩ : ByteArray).data.toList = OLD from rfl]
  by_cases hp : Go.Lib.hasPrefix s.data.toList OLD = true
  · have HR := Hid.of (show szI s.data.toList = _ from if_pos hp)
    rw [trim_old hp, hp]
    clear hp
    have hP := ParseNumber_walk ⟨(s.data.toList.drop 4).toArray⟩ 281474976710656 w HG.out
    rw [show (⟨(s.data.toList.drop 4).toArray⟩ : ByteArray).data.toList = s.data.toList.drop 4 from rfl] at hP
    generalize prs (s.data.toList.drop 4) 281474976710656 = q at *
    obtain ⟨q1, q2⟩ := q
    dsimp only at hP ⊢
    go_wp2_with fail
    refine hP.mono ?_
    rintro e w1 ⟨rfl, u1⟩
    have HU := Hid.of u1
    clear hP u1
    dsimp only
    by_cases h0 : q2 = 0
    · subst h0
      go_wp2
      go_ret2
      rw [HR.out]
      exact ⟨rfl, HU.out⟩
    · go_wp2
      go_ret2
      rw [HR.out]
      exact ⟨by simp [h0], HU.out⟩
  · have hp0 : Go.Lib.hasPrefix s.data.toList OLD = false := by simpa using hp
    have HR := Hid.of (show szI s.data.toList = (0, false) from if_neg hp)
    rw [hp0]
    clear hp hp0
    generalize Go.Lib.trimPrefix s.data.toList OLD = tr
    dsimp only
    go_wp2
    go_ret2
    rw [HR.out]
    exact ⟨rfl, Up.refl _⟩
theorem row_lenW {w : World} {B : Nat} {v : Value} {l : List UInt8} (h : Own w B v l) : ∃ a c, v = .slice a l.length c := by
  rcases h.2 with ⟨e1, h0⟩ | ⟨g, cap, cur, e1, _⟩
  · exact ⟨none, 0, by rw [e1, h0]⟩
  · exact ⟨_, cap, e1⟩
/-- the hash in a line -/
def hsI (l : List UInt8) : Option (List UInt8) := if (b64R l).2 = 0 ∧ (b64R l).1.length = 32 then some (b64R l).1 else none
def zH : List UInt8 := List.replicate 32 0
def hsV (l : List UInt8) : List UInt8 := (hsI l).getD zH
theorem infoHs : (Tryz.prog.info? 49).map (·.size) = some 32 := by kernel_rfl
set_option maxRecDepth 100000 in
set_option maxHeartbeats 2000000 in
theorem hashIn_walk (s : ByteArray) (w : World) (hT : TabL w) : Calls Tryz.prog 40 #[.string s] w fun e w' => e = .returned (.tuple #[.agg (cb (hsV s.data.toList)).toArray, .bool (hsI s.data.toList).isSome]) ∧ Up w w' := by
  go_enter Tryz.func40, Tryz.ntmps40
  go_wp2_with fail
  change Calls _ _ _ (w.alloc (Obj.cells (cb zH).toArray 49)) _
  have ht := there_new w (cb zH) 49
  have hu0 := (Up.refl w).alloc (Obj.cells (cb zH).toArray 49)
  have hsz0 : w.heap.size < (w.alloc (Obj.cells (cb zH).toArray 49)).heap.size := by rw [World.alloc]; simp
  generalize w.alloc (Obj.cells (cb zH).toArray 49) = W0 at *
  refine (DecodeBase64_walk s W0 (hT.up hu0)).mono ?_
  rintro e W1 ⟨v, rfl, hO, u1⟩
  dsimp only
  have HT := Hid.of (show W1.there w.heap.size 0 32 from there_up ht hsz0 u1)
  have HU := Hid.of (hu0.trans u1)
  clear ht hu0 hT u1
  have hBAD : hsI s.data.toList = none → ∀ (W : World), W.there w.heap.size 0 32 → Up w W → Hid ((World.setCells W w.heap.size 0 (cb zH).toArray.toList).rangeAt w.heap.size 0 (cb zH) ∧ Up w (World.setCells W w.heap.size 0 (cb zH).toArray.toList)) := fun _ W h1 h2 => Hid.of ⟨World.rangeAt_setCells_same _ _ _ _ h1, up_setCells (Nat.le_refl _) _ 0 h2⟩
  have HI := Hid.of (show hsI s.data.toList = _ from rfl)
  generalize hq : b64R s.data.toList = q at *
  obtain ⟨x, er⟩ := q
  have HQ := Hid.of hq
  clear hq
  dsimp only at hO ⊢
  by_cases h0 : er = 0
  · subst h0
    obtain ⟨a, c, rfl⟩ := row_lenW hO
    by_cases h32 : x.length = 32
    · have h32z : (x.length : Int) = 32 := by omega
      have HN : Hid (hsI s.data.toList = some x) := Hid.of (by unfold hsI; rw [HQ.out, if_pos ⟨rfl, h32⟩])
      clear hBAD HI
      rcases hO.2 with ⟨_, h0⟩ | ⟨g, cap, cur, e1, hbg, _⟩
      · omega
      · injection e1 with e1 _ e3
        subst e1 e3
        have HRX := Hid.of (show W1.rangeAt g 0 (cb x) from fun j u hu => by
          have := World.ownsRow.cells hO rfl j u hu
          rw [add_plain] at this
          exact this)
        have hcl : (cb x).length = 32 := by rw [cb_length]; exact h32
        clear hO
        rw [h32]
        have har : ∀ w0, (Instr.arrayAt 49 (.slice (some ⟨g, 0, none⟩) 32 c)).run Tryz.prog w0 = .ok (.pointer (some ⟨g, 0, none⟩)) w0 := fun w0 => run_arrayAt w0 49 _ 32 _ 32 c Tryz.underlying49 (by omega)
        clear h32z
        go_wp2_with (with_reducible show wpList _ _ _ ({ dst := _, op := Op.load 49 _, type := _, pos := _, after := _, guard := _ } :: _) _ _; refine Shut.out ?_)
        show wpList _ _ _ _ _ _
        refine wpList_load_mid rfl _ _ rfl g 0 rfl (cb x) _ HRX.out Tryz.underlying49 rfl (by rw [hcl]; exact infoHs) ?_
        simp only [Act.put, List.setIfInBounds_toArray, List.set_cons_zero, List.set_cons_succ]
        refine wpList_store_mid rfl _ _ _ rfl w.heap.size 0 (cb x).toArray rfl rfl (by rw [show (cb x).toArray.size = 32 from hcl]; exact HT.out) (by rw [List.size_toArray, hcl]; exact infoHs) (all_oneCell_toArray (cb_one _)) ?_
        simp only [Act.put]
        have HRG := Hid.of (show (World.setCells W1 w.heap.size 0 (cb x).toArray.toList).rangeAt w.heap.size 0 (cb x) ∧ Up w (World.setCells W1 w.heap.size 0 (cb x).toArray.toList) from ⟨World.rangeAt_setCells_same _ _ _ _ (by rw [show (cb x).toArray.toList.length = 32 from hcl]; exact HT.out), up_setCells (Nat.le_refl _) _ 0 HU.out⟩)
        generalize World.setCells W1 w.heap.size 0 (cb x).toArray.toList = WZ at *
        go_wp2_with fail
        refine bodyPost_ret (result_cell_tmp Tryz.results40 _ _ w.heap.size (cb x) _ rfl rfl HRG.out.1 Tryz.underlying49 rfl (by rw [hcl]; exact infoHs)) rfl ?_
        unfold hsV
        rw [HN.out]
        exact ⟨rfl, HRG.out.2⟩
    · have h32z : ¬ (x.length : Int) = 32 := by omega
      have HN : Hid (hsI s.data.toList = none) := Hid.of (by unfold hsI; rw [HQ.out, if_neg (by simp [h32])])
      clear hO
      go_wp2_with (with_reducible show wpList _ _ _ ({ dst := _, op := Op.store 49 (.tmp 2) _, type := _, pos := _, after := _, guard := _ } :: _) _ _; refine Shut.out ?_)
      show wpList _ _ _ _ _ _
      refine wpList_store_mid rfl _ _ _ rfl w.heap.size 0 (cb zH).toArray rfl rfl (by exact HT.out) infoHs (all_oneCell_toArray (cb_one _)) ?_
      simp only [Act.put]
      have HRG := hBAD HN.out W1 HT.out HU.out
      generalize World.setCells W1 w.heap.size 0 (cb zH).toArray.toList = WZ at *
      go_wp2_with fail
      refine bodyPost_ret (result_cell_tmp Tryz.results40 _ _ w.heap.size (cb zH) _ rfl rfl HRG.out.1 Tryz.underlying49 rfl infoHs) rfl ?_
      unfold hsV
      rw [HN.out]
      exact ⟨rfl, HRG.out.2⟩
  · have HN : Hid (hsI s.data.toList = none) := Hid.of (by unfold hsI; rw [HQ.out, if_neg (by simp [h0])])
    clear hO
    go_wp2_with (with_reducible show wpList _ _ _ ({ dst := _, op := Op.store 49 (.tmp 2) _, type := _, pos := _, after := _, guard := _ } :: _) _ _; refine Shut.out ?_)
    show wpList _ _ _ _ _ _
    refine wpList_store_mid rfl _ _ _ rfl w.heap.size 0 (cb zH).toArray rfl rfl (by exact HT.out) infoHs (all_oneCell_toArray (cb_one _)) ?_
    simp only [Act.put]
    have HRG := hBAD HN.out W1 HT.out HU.out
    generalize World.setCells W1 w.heap.size 0 (cb zH).toArray.toList = WZ at *
    go_wp2_with fail
    refine bodyPost_ret (result_cell_tmp Tryz.results40 _ _ w.heap.size (cb zH) _ rfl rfl HRG.out.1 Tryz.underlying49 rfl infoHs) rfl ?_
    unfold hsV
    rw [HN.out]
    exact ⟨rfl, HRG.out.2⟩
end Go.Proofs.YtaobnnlcfefodaaGreatDoor
namespace Go.Proofs.YtaobnnlcfefodaaGreatDoor
open Go.RowKit TextNum
theorem run_app_slM {w : World} {B : Nat} {v : Value} {l : List UInt8} (sa : Addr) (sn sc : Nat) (m : List UInt8) (ty : TypeId) (hm : m.length = sn) (hcell : ∀ j u, (cb m)[j]? = some u → w.cell? (sa.add j) = some u) (hown : OwnM w B v l) (hn : l.length + m.length ≤ 140737488355328) (hB : B ≤ w.heap.size) :
    ∃ v' w', (Builtin.append_ #[23, 23] ty #[v, .slice (some sa) sn sc]).run Tryz.prog w = .ok v' w' ∧ OwnM w' B v' (l ++ m) ∧ Below B w w' := by
  subst hm
  obtain ⟨i, hi, hz, hsize, hby⟩ := info_parts Tryz.info8
  have ht : Tryz.prog.underlying 23 = some (.slice 5) := Tryz.underlying23
  have hs : Src Tryz.prog i.size 23 (.slice (some sa) m.length sc) m.length (cb m) w := Src.ofSlice w ht sa m.length sc (cb m) (by rw [cb_length, hsize, Nat.mul_one]) hcell (cb_one m)
  have hlen : (cb l ++ cb m).length = l.length + m.length := by simp [cb]
  have h0 := hown
  obtain ⟨g, cap, cur, fr, rfl, hbg, hg, hfr, hnc, hcm, hcs, htake⟩ := hown
  by_cases hroom : l.length + m.length ≤ cap
  · have hfit : l.length + (cb m).length ≤ cur.size := by rw [hcs, cb_length]; omega
    have hst := run_storeCells_mk Tryz.prog g (l.length * i.size) 5 fr (cb m) 0 cur w hg (by rw [hcs]; exact hfr) (by rw [hsize]; simpa using hfit) (cb_one m)
    simp only [Nat.add_zero] at hst
    have hr : (Builtin.append_ #[23, 23] ty #[.slice (some ⟨g, 0, none⟩) l.length cap, .slice (some sa) m.length sc]).run Tryz.prog w =
        .ok (.slice (some ⟨g, 0, none⟩) (l.length + m.length) cap) (w.setRow g (cur.toList.take (l.length * i.size) ++ cb m ++ cur.toList.drop (l.length * i.size + (cb m).length)).toArray) := by
      simp [Builtin.append_, run_underlying ht, sizeOf, typeInfo, hi, hs.len, hroom, hs.cells, Addr.add_lit, hst]
    refine ⟨_, _, hr, ⟨g, cap, _, fr, by rw [List.length_append], hbg, setRow_heap w g cur _ 5 _ hg, hfr, by rw [List.length_append]; exact hroom, hcm, ?_, ?_⟩, ⟨rfl, rfl, rfl, by simp, fun k hk => setRow_other w g k _ (by omega)⟩⟩
    · simp only [List.size_toArray, List.length_append, List.length_take, List.length_drop, Array.length_toList, cb_length, hsize]
      omega
    · rw [hsize, Nat.mul_one, htake, cb_append, List.length_append, ← hlen]
      exact List.take_left
  · obtain ⟨_, holds⟩ := h0.cells
    have hold := run_firstCells_some (P := Tryz.prog) w.drew i.size l.length ⟨g, 0, none⟩ l.length cap (cb l) (by rw [hsize, cb_length, Nat.mul_one]) (fun j u hj => by rw [add_plain, Nat.zero_add]; exact (World.cell?_drew _ _).trans (holds j u hj))
    have hr := run_append_grow_src (P := Tryz.prog) w 23 23 ty 5 i _ ht hi hz (some ⟨g, 0, none⟩) l.length cap (cb l) hold _ m.length (cb m) hs (by omega) (by omega) (growslice_fits (by omega) (by rw [hby]; omega))
    have hge := grownCap_ge w (l.length + m.length) cap 5
    have hcm2 : grownCap w (l.length + m.length) cap 5 ≤ maxLen := grownCap_le_maxLen w _ cap _ (by unfold maxLen; omega)
    refine ⟨_, _, hr, ⟨w.heap.size, _, _, (0, 0), by rw [List.length_append], hB, heap_alloc_new w.drew _, .inl rfl, by rw [List.length_append]; exact hge, hcm2, ?_, ?_⟩, Below.alloc (Below.drew (Below.refl B w)) hB _⟩
    · simp only [Array.size_append, List.size_toArray, size_zeroCells, hlen]
      simp [Value.cells]
      omega
    · simp only [Array.toList_append, cb_append, List.length_append]
      rw [← hlen]
      exact List.take_left
theorem wpList_appSlM {ops : Array Oper} {rest : List Oper} {o : Oper} {a : Act} {w : World} {Q : Exit → Act → World → Prop} (hgd : o.guard = none) (s x : Operand)
    (ho : o.op = .call { callee := .builtin .append, args := #[s, x], argTypes := #[23, 23] }) (B : Nat) (v vy : Value) (l m : List UInt8) (hs : a.eval s = v) (hown : OwnM w B v l)
    (hx : a.eval x = vy) (hSl : Sl w vy m) (hm0 : m ≠ []) (hn : l.length + m.length ≤ 140737488355328) (hB : B ≤ w.heap.size)
    (h : ∀ v' w', OwnM w' B v' (l ++ m) → Below B w w' → wpList Tryz.prog ops Q rest (a.put o.dst v') w') : wpList Tryz.prog ops Q (o :: rest) a w := by
  obtain ⟨ay, cy, rfl, k1, k2⟩ := hSl
  rcases k2 with h0 | ⟨b, off, rfl, _, hc⟩
  · exact absurd h0 hm0
  · refine wpList_plain hgd fun K hK => ?_
    obtain ⟨v', w', hr, h2, h3⟩ := run_app_slM ⟨b, off, none⟩ m.length cy m o.type rfl (fun j u hu => by
      have hj : j < m.length := by have := (List.getElem?_eq_some_iff.1 hu).1; rwa [cb_length] at this
      rw [add_plain, hc j hj]
      rw [cb_get hj] at hu
      exact hu) hown hn hB
    unfold Oper.wp execOp
    simp only [ho, resolve, invoke, builtin, Sem.run_bind, Sem.run_pure, Result.andThen_ok, List.map_toArray, List.map_cons, List.map_nil, hs, hx, hr]
    exact hK _ _ (h v' w' h2 h3)
/-- a list of hashes that is read -/
def HL (w : World) (v : Value) (hs : List (List UInt8)) : Prop := ∃ a c, v = .slice a hs.length c ∧ hs.length ≤ c ∧ ∀ j (h : j < hs.length), hs[j].length = 32 ∧ ∃ b o, a = some ⟨b, o, none⟩ ∧ b < w.heap.size ∧ w.rangeAt b (o + j * 32) (cb hs[j])
theorem range_upW {w w' : World} {b o : Nat} {vs : List Value} (h : w.rangeAt b o vs) (u : Up w w') : w'.rangeAt b o vs := fun i v hv => u.cell (h i v hv)
theorem HL.up {w w' : World} {v : Value} {hs : List (List UInt8)} (h : HL w v hs) (u : Up w w') : HL w' v hs := by
  obtain ⟨a, c, h1, h2, h3⟩ := h
  refine ⟨a, c, h1, h2, fun j hj => ?_⟩
  obtain ⟨h4, b, o, h5, h6, h7⟩ := h3 j hj
  exact ⟨h4, b, o, h5, Nat.lt_of_lt_of_le h6 u.size, range_upW h7 u⟩
theorem nt_ne {m : List UInt8} (h : isNt m) : m ≠ [] := by
  obtain ⟨_, t, ss, i, hb, _⟩ := nt_iff.1 h
  rintro rfl
  simp [bk] at hb
/-- the ask so far -/
def fmP (o : Int) (hs : List (List UInt8)) (i : Nat) : List UInt8 := OLD ++ Go.Lib.itoa o ++ [10] ++ (hs.take i).flatMap hln
set_option maxRecDepth 100000 in
set_option maxHeartbeats 4000000 in
theorem FormatAsk_yes (w : World) (o : Int) (pv hv : Value) (hs : List (List UInt8)) (m : List UInt8) (hP : HL w pv hs) (hM : Sl w hv m) (hT : TabL w) (hW : Go.Lib.WhiteTab 6 w) (hG : GN w)
    (o0 : 0 ≤ o) (o1 : o ≤ 281474976710656) (hn : hs.length ≤ 64) (hm : isNt m) :
    Calls Tryz.prog 7 #[.int .i64 o, pv, hv] w fun e w' => ∃ v, e = .returned (.tuple #[v, .int .i64 0]) ∧ OwnM w' w.heap.size v (fmA o hs m) ∧ Up w w' := by
  have hml := (nt_iff.1 hm).1
  have HM := Hid.of hM
  have HT := Hid.of hT
  have HG := Hid.of hG
  have HNE := Hid.of (nt_ne hm)
  have hI := isNote_walk hv m w hM hT hW true ⟨fun _ => hm, fun _ => rfl⟩
  obtain ⟨hc, mc, rfl, hmc, _⟩ := id hM
  obtain ⟨pa, pc, rfl, hpc, hpx⟩ := id hP
  have HP := Hid.of hP
  have HPX := Hid.of hpx
  obtain ⟨n, hnn⟩ : ∃ n, hs.length = n := ⟨_, rfl⟩
  obtain ⟨k, hk⟩ : ∃ k, m.length = k := ⟨_, rfl⟩
  have HN := Hid.of (And.intro hnn hk)
  have HML := Hid.of hml
  rw [hnn] at hpc HP hn ⊢
  rw [hk] at hmc hI HM hml ⊢
  have z0 : ¬ o < 0 := by omega
  have z1 : ¬ (281474976710656 : Int) < o := by omega
  have z2 : ¬ (64 : Int) < (n : Int) := by omega
  have z3 : ¬ (65536 : Int) < (k : Int) := by omega
  clear hM hT hW hG hm hP hpx hnn hk
  go_enter Tryz.func7, Tryz.ntmps7
  go_wp2_with fail
  refine hI.mono ?_
  rintro e w1 ⟨rfl, u1⟩
  have HU1 := Hid.of u1
  clear hI u1
  dsimp only
  go_wp2_with fail
  refine (FormatNumber_walk o (by omega) (by omega) w1 (HG.out.up HU1.out)).mono ?_
  rintro e w2 ⟨rfl, u2⟩
  have HU2 := Hid.of (HU1.out.trans u2)
  clear u2 HU1
  obtain ⟨sO, hsO⟩ : ∃ s, (⟨(Go.Lib.itoa o).toArray⟩ : ByteArray) = s := ⟨_, rfl⟩
  have kO : sO.size ≤ 20 := by rw [← hsO, Go.Lib.size_eq]; exact (itoa_len o (by omega) (by omega)).1
  obtain ⟨s1, hs1⟩ : ∃ s, (⟨#[111, 108, 100, 32]⟩ : ByteArray) ++ sO = s := ⟨_, rfl⟩
  have k1 : s1.size ≤ 24 := by rw [← hs1, ByteArray.size_append, show (⟨#[111, 108, 100, 32]⟩ : ByteArray).size = 4 from rfl]; omega
  obtain ⟨s2, hs2⟩ : ∃ s, s1 ++ (⟨#[10]⟩ : ByteArray) = s := ⟨_, rfl⟩
  have k2 : s2.size ≤ 25 := by rw [← hs2, ByteArray.size_append, show (⟨#[10]⟩ : ByteArray).size = 1 from rfl]; omega
  have HE := Hid.of (show s2.data.toList = fmP o hs 0 by
    rw [← hs2, ← hs1, ← hsO]
    simp [fmP, OLD, ByteArray.data_append])
  rw [show vs (Go.Lib.itoa o) = .string sO from congrArg Value.string hsO]
  clear hsO
  dsimp only
  go_wp2_with (with_reducible show wpList _ _ _ ({ dst := _, op := Op.convert 9 23 _, type := _, pos := _, after := _, guard := _ } :: _) _ _; refine Shut.out ?_)
  show wpList _ _ _ _ _ _
  clear hs1 hs2 k1 kO
  refine wpList_conv rfl _ rfl s2 (by omega) rfl ?_
  intro v3 w3 hO3 u3
  have HO3 := Hid.of (show OwnM w3 w.heap.size v3 (fmP o hs 0) ∧ Up w w3 from ⟨by rw [← HE.out]; exact hO3.base HU2.out.size, HU2.out.trans u3⟩)
  clear hO3 u3 HU2 HE k2
  simp only [Act.put, List.setIfInBounds_toArray, List.set_cons_zero, List.set_cons_succ]
  go_wp2
  go_loopw [8, 35] (fun v8 v35 wr => ∃ i : Nat, v35 = .int .i64 (i : Int) ∧ i ≤ n ∧ Hid (OwnM wr w.heap.size v8 (fmP o hs i) ∧ Up w wr)) (fun _ v35 _ => n - (intOf v35).toNat)
  case atStart => exact ⟨0, rfl, by omega, HO3⟩
  case round =>
    clear HO3
    obtain ⟨i, rfl, hi, HK⟩ := hrel
    by_cases hlt : i < n
    · have hltz : (i : Int) < (n : Int) := by omega
      have hpcz : (n : Int) ≤ (pc : Int) := by omega
      have hiw : IntKind.i64.wrap ((i : Int) + 1) = (i : Int) + 1 := by rw [IntKind.wrap_i64]; omega
      have hil : i < hs.length := by rw [HN.out.1]; exact hlt
      obtain ⟨hx32, b, off, rfl, hbl, hrg⟩ := HPX.out i hil
      obtain ⟨x, hx⟩ : ∃ x, hs[i] = x := ⟨_, rfl⟩
      rw [hx] at hx32 hrg
      have HX := Hid.of (show fmP o hs (i + 1) = fmP o hs i ++ hln x by
        unfold fmP
        rw [List.take_succ_eq_append_getElem hil, hx]
        simp)
      have hcl : (cb x).length = 32 := by rw [cb_length]; exact hx32
      have HRG := Hid.of (range_upW hrg HK.out.2)
      clear hx hrg
      go_wp2_with (with_reducible show wpList _ _ _ ({ dst := _, op := Op.load 49 _, type := _, pos := _, after := _, guard := _ } :: _) _ _; refine Shut.out ?_)
      show wpList _ _ _ _ _ _
      refine wpList_load_mid rfl _ _ rfl b (off + i * 32) rfl (cb x) _ HRG.out Tryz.underlying49 rfl (by rw [hcl]; exact infoHs) ?_
      simp only [Act.put, List.setIfInBounds_toArray, List.set_cons_zero, List.set_cons_succ]
      go_wp2_with (with_reducible show wpList _ _ _ ({ dst := _, op := Op.store 49 _ _, type := _, pos := _, after := _, guard := _ } :: _) _ _; refine Shut.out ?_)
      show wpList _ _ _ _ _ _
      change wpList _ _ _ _ _ (wr.alloc (Obj.cells (cb zH).toArray 49))
      have ht := there_new wr (cb zH) 49
      have hu0 := (Up.refl wr).alloc (Obj.cells (cb zH).toArray 49)
      have hsz0 : wr.heap.size < (wr.alloc (Obj.cells (cb zH).toArray 49)).heap.size := by rw [World.alloc]; simp
      generalize wr.alloc (Obj.cells (cb zH).toArray 49) = W4 at *
      refine wpList_store_mid rfl _ _ _ rfl wr.heap.size 0 (cb x).toArray rfl rfl (by rw [show (cb x).toArray.size = 32 from hcl]; exact ht) (by rw [show (cb x).toArray.size = 32 from hcl]; exact infoHs) (all_oneCell_toArray (cb_one _)) ?_
      simp only [Act.put]
      have HU5 := Hid.of (up_setCells (W := wr) (Nat.le_refl _) (cb x).toArray.toList 0 hu0)
      have HS5 := Hid.of (show Sl (World.setCells W4 wr.heap.size 0 (cb x).toArray.toList) (.slice (some ⟨wr.heap.size, 0, none⟩) 32 32) x from ⟨_, 32, by rw [hx32], by rw [hx32]; omega, .inr ⟨wr.heap.size, 0, rfl, by rw [setCells_size]; exact hsz0, fun j hj => by
        have h9 : (World.setCells W4 wr.heap.size 0 (cb x)).rangeAt wr.heap.size 0 (cb x) := World.rangeAt_setCells_same W4 wr.heap.size 0 (cb x) (by rw [hcl]; exact ht)
        exact h9 j _ (cb_get hj)⟩⟩)
      generalize World.setCells W4 wr.heap.size 0 (cb x).toArray.toList = W5 at *
      clear ht hu0 hsz0
      have HTU := Hid.of (HK.out.2.trans HU5.out)
      go_wp2_with fail
      refine (EncodeBase64_walk _ x W5 (HT.out.up HTU.out) HS5.out (by omega)).mono ?_
      rintro e w6 ⟨rfl, u6⟩
      have HU6 := Hid.of (HU5.out.trans u6)
      clear u6 HU5 HS5 HTU
      obtain ⟨sB, hsB⟩ : ∃ s, (⟨(b64E x).toArray⟩ : ByteArray) = s := ⟨_, rfl⟩
      have kB : sB.size ≤ 44 := by rw [← hsB, Go.Lib.size_eq]; show (b64E x).length ≤ 44; rw [b64E_length, hx32]; decide
      obtain ⟨sL, hsL⟩ : ∃ s, sB ++ (⟨#[10]⟩ : ByteArray) = s := ⟨_, rfl⟩
      have kL : sL.size ≤ 45 := by rw [← hsL, ByteArray.size_append, show (⟨#[10]⟩ : ByteArray).size = 1 from rfl]; omega
      have HSL := Hid.of (show sL = ⟨(hln x).toArray⟩ by
        rw [← hsL, ← hsB]
        refine ba_list7 ?_
        simp [hln, ByteArray.data_append])
      rw [show vs (b64E x) = .string sB from congrArg Value.string hsB]
      clear hsB
      dsimp only
      have HFL := Hid.of (show (fmP o hs i).length ≤ 4096 by
        have h1 := hln_len (hs.take i) (fun h hh => by
          obtain ⟨j, hj, rfl⟩ := List.getElem_of_mem (List.mem_of_mem_take hh)
          exact (HPX.out j hj).1)
        have h2 := (itoa_len o (by omega) (by omega)).1
        have h3 : (hs.take i).length ≤ 64 := by rw [List.length_take, HN.out.1]; omega
        unfold fmP
        simp only [List.length_append, h1, OLD, List.length_cons, List.length_nil]
        omega)
      have HHL := Hid.of (show (hln x).length = 45 by simp only [hln, List.length_append, b64E_length, hx32, List.length_cons, List.length_nil])
      go_wp2_with (with_reducible show wpList _ _ _ ({ dst := _, op := Op.call { callee := Callee.builtin Builtin.append, args := _, argTypes := _ }, type := _, pos := _, after := _, guard := _ } :: _) _ _; refine Shut.out ?_)
      show wpList _ _ _ _ _ _
      refine wpList_appsM rfl _ _ rfl w.heap.size _ (fmP o hs i) (hln x) rfl (HK.out.1.up HU6.out) (by rw [← HSL.out]; rfl) (by have := HFL.out; rw [HHL.out]; omega) (HK.out.2.trans HU6.out).size ?_
      intro v7 w7 hO7 b7
      simp only [Act.put, List.setIfInBounds_toArray, List.set_cons_zero, List.set_cons_succ]
      have HNX := Hid.of (show OwnM w7 w.heap.size v7 (fmP o hs (i + 1)) ∧ Up w w7 from ⟨by rw [HX.out]; exact hO7, (HK.out.2.trans HU6.out).step (Nat.le_refl _) b7⟩)
      clear hO7 b7 HU6 HX HK HRG hsL kB kL
      go_wp2
      go_roundw
      case rel => exact ⟨i + 1, by go_num, by omega, HNX⟩
      case measure => simp [intOf]; omega
    · have hltz : ¬ (i : Int) < (n : Int) := by omega
      obtain rfl : i = n := by omega
      have HFL := Hid.of (show (fmP o hs i).length ≤ 4096 by
        have h1 := hln_len (hs.take i) (fun h hh => by
          obtain ⟨j, hj, rfl⟩ := List.getElem_of_mem (List.mem_of_mem_take hh)
          exact (HPX.out j hj).1)
        have h2 := (itoa_len o (by omega) (by omega)).1
        have h3 : (hs.take i).length ≤ 64 := by rw [List.length_take, HN.out.1]; omega
        unfold fmP
        simp only [List.length_append, h1, OLD, List.length_cons, List.length_nil]
        omega)
      go_wp2_with (with_reducible show wpList _ _ _ ({ dst := _, op := Op.call { callee := Callee.builtin Builtin.append, args := _, argTypes := _ }, type := _, pos := _, after := _, guard := _ } :: _) _ _; refine Shut.out ?_)
      show wpList _ _ _ _ _ _
      refine wpList_appsM rfl _ _ rfl w.heap.size _ (fmP o hs i) [10] rfl HK.out.1 rfl (by have := HFL.out; simp only [List.length_cons, List.length_nil]; omega) HK.out.2.size ?_
      intro v7 w7 hO7 b7
      simp only [Act.put, List.setIfInBounds_toArray, List.set_cons_zero, List.set_cons_succ]
      have H7 := Hid.of (show OwnM w7 w.heap.size v7 (fmP o hs i ++ [10]) ∧ Up w w7 from ⟨hO7, HK.out.2.step (Nat.le_refl _) b7⟩)
      clear hO7 b7 HK
      go_wp2_with (with_reducible show wpList _ _ _ ({ dst := _, op := Op.call { callee := Callee.builtin Builtin.append, args := _, argTypes := _ }, type := _, pos := _, after := _, guard := _ } :: _) _ _; refine Shut.out ?_)
      show wpList _ _ _ _ _ _
      refine wpList_appSlM rfl _ _ rfl w.heap.size _ _ (fmP o hs i ++ [10]) m rfl H7.out.1 rfl (HM.out.up H7.out.2) HNE.out (by have := HFL.out; have := HN.out.2; simp only [List.length_append, List.length_cons, List.length_nil]; omega) H7.out.2.size ?_
      intro v8 w8 hO8 b8
      simp only [Act.put, List.setIfInBounds_toArray, List.set_cons_zero, List.set_cons_succ]
      have H8 := Hid.of (show OwnM w8 w.heap.size v8 (fmA o hs m) ∧ Up w w8 from ⟨by
        have e : fmA o hs m = fmP o hs i ++ [10] ++ m := by
          unfold fmA fmP
          rw [← HN.out.1, List.take_length]
          simp
        rw [e]
        exact hO8, H7.out.2.step (Nat.le_refl _) b8⟩)
      clear hO8 b8 H7
      go_wp2
      go_ret2
      exact ⟨_, rfl, H8.out⟩
set_option maxRecDepth 100000 in
set_option maxHeartbeats 2000000 in
/-- FormatAsk of anything -/
theorem FormatAsk_any (w : World) (o : Int) (pv hv : Value) (hs : List (List UInt8)) (m : List UInt8) (hP : HL w pv hs) (hM : Sl w hv m) (hT : TabL w) (hW : Go.Lib.WhiteTab 6 w) (hG : GN w) :
    Calls Tryz.prog 7 #[.int .i64 o, pv, hv] w fun e w' => ∃ v er, e = .returned (.tuple #[v, .int .i64 er]) ∧ Up w w' ∧ ((er = 0 ∧ VA o hs m ∧ OwnM w' w.heap.size v (fmA o hs m)) ∨ (er ≠ 0 ∧ ¬ VA o hs m)) := by
  have h32 : ∀ h ∈ hs, h.length = 32 := fun h hh => by
    obtain ⟨a, c, _, _, hx⟩ := hP
    obtain ⟨j, hj, rfl⟩ := List.getElem_of_mem hh
    exact (hx j hj).1
  by_cases z : 0 ≤ o ∧ o ≤ 281474976710656 ∧ hs.length ≤ 64 ∧ isNt m
  · refine (FormatAsk_yes w o pv hv hs m hP hM hT hW hG z.1 z.2.1 z.2.2.1 z.2.2.2).mono ?_
    rintro e w' ⟨v, rfl, h1, h2⟩
    exact ⟨v, 0, rfl, h2, .inl ⟨rfl, ⟨z.1, z.2.1, z.2.2.1, h32, z.2.2.2⟩, h1⟩⟩
  have HV := Hid.of (show ¬ VA o hs m from fun h => z ⟨h.o0, h.o1, h.n, h.m⟩)
  have hI := fun hb : ¬ isNt m => isNote_walk hv m w hM hT hW false ⟨(fun h => by cases h), fun h => (hb h).elim⟩
  obtain ⟨hc, mc, rfl, hmc, _⟩ := hM
  obtain ⟨pa, pc, rfl, hpc, _⟩ := hP
  obtain ⟨n, hnn⟩ : ∃ n, hs.length = n := ⟨_, rfl⟩
  obtain ⟨k, hk⟩ : ∃ k, m.length = k := ⟨_, rfl⟩
  rw [hnn] at z ⊢
  rw [hk] at hI ⊢
  clear hT hW hG h32 hmc hpc hnn
  by_cases z0 : o < 0
  · go_enter Tryz.func7, Tryz.ntmps7
    go_wp2
    go_ret2
    exact ⟨_, _, rfl, Up.refl _, .inr ⟨by decide, HV.out⟩⟩
  by_cases z1 : (281474976710656 : Int) < o
  · go_enter Tryz.func7, Tryz.ntmps7
    go_wp2
    go_ret2
    exact ⟨_, _, rfl, Up.refl _, .inr ⟨by decide, HV.out⟩⟩
  by_cases z2 : (64 : Int) < (n : Int)
  · go_enter Tryz.func7, Tryz.ntmps7
    go_wp2
    go_ret2
    exact ⟨_, _, rfl, Up.refl _, .inr ⟨by decide, HV.out⟩⟩
  by_cases z3 : (65536 : Int) < (k : Int)
  · go_enter Tryz.func7, Tryz.ntmps7
    go_wp2
    go_ret2
    exact ⟨_, _, rfl, Up.refl _, .inr ⟨by decide, HV.out⟩⟩
  have hb : ¬ isNt m := fun hb => z ⟨by omega, by omega, by omega, hb⟩
  replace hI := hI hb
  clear z hb hk
  go_enter Tryz.func7, Tryz.ntmps7
  go_wp2_with fail
  refine hI.mono ?_
  rintro e w1 ⟨rfl, u1⟩
  have HU1 := Hid.of u1
  clear hI u1
  dsimp only
  go_wp2
  go_ret2
  exact ⟨_, _, rfl, HU1.out, .inr ⟨by decide, HV.out⟩⟩
end Go.Proofs.YtaobnnlcfefodaaGreatDoor
namespace Go.Proofs.YtaobnnlcfefodaaGreatDoor
open Go.RowKit TextNum
set_option maxRecDepth 100000 in
theorem build_hs : ∀ (x : List UInt8), x.length = 32 → ∀ w : World, (Instr.buildSlice 26 1 #[(0, .agg (cb x).toArray)]).run Tryz.prog w = .ok (.slice (some ⟨w.heap.size, 0, none⟩) 1 1) (w.alloc (.cells (cb x).toArray 49))
  | [x0, x1, x2, x3, x4, x5, x6, x7, x8, x9, x10, x11, x12, x13, x14, x15, x16, x17, x18, x19, x20, x21, x22, x23, x24, x25, x26, x27, x28, x29, x30, x31], _, w => by kernel_rfl
theorem exec_buildHs {ρ : Operand → Value} {o : Oper} {ps : Array (Nat × Operand)} {w : World} {x : List UInt8} (hx : x.length = 32) (ho : o.op = .buildSlice 26 1 ps) (hv : (ps.map fun (i, y) => (i, ρ y)) = #[(0, .agg (cb x).toArray)]) : (execOp ρ o).run Tryz.prog w = .ok (.value (.slice (some ⟨w.heap.size, 0, none⟩) 1 1)) (w.alloc (.cells (cb x).toArray 49)) := by
  unfold execOp
  simp only [ho, hv, Sem.run_bind, build_hs x hx w, Result.andThen_ok, Sem.run_pure]
theorem wpList_buildHs {ops : Array Oper} {rest : List Oper} {o : Oper} {a : Act} {w : World} {Q : Exit → Act → World → Prop} (hgd : o.guard = none) (ps : Array (Nat × Operand)) (ho : o.op = .buildSlice 26 1 ps) {x : List UInt8} (hx : x.length = 32) (hv : (ps.map fun (i, y) => (i, a.eval y)) = #[(0, .agg (cb x).toArray)])
    (h : wpList Tryz.prog ops Q rest (a.put o.dst (.slice (some ⟨w.heap.size, 0, none⟩) 1 1)) (w.alloc (.cells (cb x).toArray 49))) : wpList Tryz.prog ops Q (o :: rest) a w :=
  wpList_plain hgd fun K hK => by
    unfold Oper.wp
    rw [exec_buildHs hx ho hv]
    exact hK _ _ h
/-- a list of hashes of one's own -/
def HO (w : World) (B : Nat) (v : Value) (hs : List (List UInt8)) : Prop := w.ownsRow B 49 32 v hs.length (hs.flatMap cb)
theorem infoHash : (Tryz.prog.info? 49).map (fun i => (i.zero, i.size, i.bytes)) = some (some (.agg (cb zH).toArray), 32, 32) := by kernel_rfl
theorem hs_len : ∀ (hs : List (List UInt8)), (∀ h ∈ hs, h.length = 32) → (hs.flatMap cb).length = hs.length * 32
  | [], _ => rfl
  | h :: hs, l => by
    have e := hs_len hs (fun x hx => l x (List.mem_cons_of_mem _ hx))
    simp only [List.flatMap_cons, List.length_append, e, cb_length, l h List.mem_cons_self, List.length_cons]
    omega
theorem hs_get : ∀ (hs : List (List UInt8)), (∀ h ∈ hs, h.length = 32) → ∀ (j : Nat) (hj : j < hs.length) (i : Nat) (u : Value), (cb hs[j])[i]? = some u → (hs.flatMap cb)[j * 32 + i]? = some u
  | [], _, j, hj, _, _, _ => by cases hj
  | h :: hs, l, j, hj, i, u, hu => by
    have hl : (cb h).length = 32 := by rw [cb_length]; exact l h List.mem_cons_self
    rw [List.flatMap_cons]
    cases j with
    | zero =>
      have hi : i < (cb h).length := (List.getElem?_eq_some_iff.1 hu).1
      rw [List.getElem?_append_left (by omega), Nat.zero_mul, Nat.zero_add]
      exact hu
    | succ j =>
      rw [List.getElem?_append_right (by omega), hl, show (j + 1) * 32 + i - 32 = j * 32 + i by omega]
      exact hs_get hs (fun x hx => l x (List.mem_cons_of_mem _ hx)) j (by simpa using hj) i u (by simpa using hu)
theorem HO.hl {w : World} {B : Nat} {v : Value} {hs : List (List UInt8)} (h : HO w B v hs) (l : ∀ h ∈ hs, h.length = 32) : HL w v hs := by
  rcases h.2 with ⟨rfl, h0⟩ | ⟨g, cap, cur, rfl, _, hg, hc, _⟩
  · refine ⟨none, 0, by rw [h0], by omega, fun j hj => ?_⟩
    omega
  · refine ⟨_, cap, rfl, hc, fun j hj => ⟨l _ (List.getElem_mem hj), g, 0, rfl, (World.ownsRow.lt h g rfl).2, fun i u hu => ?_⟩⟩
    have := World.ownsRow.cells h (g := g) rfl (j * 32 + i) u (hs_get hs l j hj i u hu)
    rw [add_plain, Nat.zero_add] at this
    rw [Nat.zero_add]
    exact this
theorem HO.up {w w' : World} {B : Nat} {v : Value} {hs : List (List UInt8)} (h : HO w B v hs) (u : Up w w') : HO w' B v hs := by
  have hl := World.ownsRow.lt h
  refine ⟨h.1, ?_⟩
  rcases h.2 with e | ⟨g, cap, cur, rfl, hb, hg, r⟩
  · exact .inl e
  · exact .inr ⟨g, cap, cur, rfl, hb, (u.block g (hl g rfl).2).trans hg, r⟩
theorem Up.by' {w0 w w' : World} {row : Option Nat} (h : Up w0 w) (hg : w.grownBy w' row) (hr : ∀ g, row = some g → w0.heap.size ≤ g) : Up w0 w' :=
  ⟨hg.os.trans h.os, hg.tape.trans h.tape, hg.output.trans h.output, Nat.le_trans h.size hg.size, fun j hj => (hg.block j (Nat.lt_of_lt_of_le hj h.size) (fun e => by have := hr j e.symm; omega)).trans (h.block j hj)⟩
def slenW : Value → Nat
  | .string s => s.size
  | _ => 0
/-! ### the lines of hashes, read -/
def CPx (l : List UInt8) : Prop := ∃ (hs : List (List UInt8)) (r : List UInt8), (∀ h ∈ hs, h.length = 32) ∧ hs.length ≤ 64 ∧ l = hs.flatMap hln ++ 10 :: r
theorem cp_no {l r : List UInt8} {hs : List (List UInt8)} (e : l = hs.flatMap hln ++ r) (h32 : ∀ h ∈ hs, h.length = 32) (hx : ∀ (ks : List (List UInt8)) (m : List UInt8), (∀ k ∈ ks, k.length = 32) → (hs ++ ks).length ≤ 64 → r ≠ ks.flatMap hln ++ 10 :: m) : ¬ CPx l := by
  rintro ⟨hs', m, l', n', e'⟩
  obtain ⟨ks, e1, e2⟩ := hln_step hs hs' r m h32 l' (e.symm.trans e')
  subst e1
  exact hx ks m (fun k hk => l' k (List.mem_append_right _ hk)) n' e2
theorem cp_first {a b : List UInt8} (hna : (10 : UInt8) ∉ a) (ha : a ≠ []) {ks : List (List UInt8)} {m : List UInt8} (e : a ++ 10 :: b = ks.flatMap hln ++ 10 :: m) : ∃ k ks', ks = k :: ks' ∧ a = b64E k := by
  cases ks with
  | nil => exact absurd (first10 hna (by simp) (by simpa using e)).1 ha
  | cons k ks =>
    have e3 : a ++ 10 :: b = b64E k ++ 10 :: (ks.flatMap hln ++ 10 :: m) := by simpa [hln] using e
    exact ⟨k, ks, rfl, (first10 hna (g_no10' k) e3).1⟩
theorem hsI_some {a x : List UInt8} (h : hsI a = some x) : b64E x = a ∧ x.length = 32 := by
  unfold hsI at h
  split at h
  · rename_i hc
    obtain rfl := Option.some.inj h
    refine ⟨?_, hc.2⟩
    have h0 := hc.1
    unfold b64R at h0 ⊢
    split
    · rw [if_pos (by assumption)] at h0; cases h0
    · rw [if_neg (by assumption)] at h0
      cases hd : b64D a with
      | none => rw [hd] at h0; cases h0
      | some y => exact b64_once a y hd
  · cases h
theorem hsI_b64 {x : List UInt8} (h : x.length = 32) : hsI (b64E x) = some x := by
  have hl : (b64E x).length ≤ 1048576 := by rw [b64E_length, h]; decide
  unfold hsI
  rw [b64R_back x hl, if_pos ⟨rfl, h⟩]
theorem hsV_len (a : List UInt8) : (hsV a).length = 32 := by
  unfold hsV
  cases h : hsI a with
  | none => rfl
  | some x => exact (hsI_some h).2
theorem flatB_snoc (hs : List (List UInt8)) (x : List UInt8) : (hs ++ [x]).flatMap cb = hs.flatMap cb ++ cb x := by simp
theorem rowH {w : World} {B n : Nat} {e : TypeId} {m : Nat} {v : Value} {xs : List Value} (h : w.ownsRow B e m v n xs) : ∃ a c, v = .slice a n c := by
  rcases h.2 with ⟨rfl, rfl⟩ | ⟨g, cap, cur, rfl, _⟩
  · exact ⟨_, _, rfl⟩
  · exact ⟨_, _, rfl⟩
/-- what cutProof answers -/
def CPR (l : List UInt8) (w : World) (e : Ending) (w' : World) : Prop := Up w w' ∧ ((∃ (hs : List (List UInt8)) (r : List UInt8) (v : Value), (∀ h ∈ hs, h.length = 32) ∧ hs.length ≤ 64 ∧ l = hs.flatMap hln ++ 10 :: r ∧ e = .returned (.tuple #[v, .string ⟨r.toArray⟩, .bool true]) ∧ HO w' w.heap.size v hs) ∨ (¬ CPx l ∧ e = .returned (.tuple #[.slice none 0 0, .string ⟨#[]⟩, .bool false])))
set_option maxRecDepth 100000 in
set_option maxHeartbeats 4000000 in
theorem cutProof_walk (l : List UInt8) (hl : l.length ≤ 1048576) (w : World) (hT : TabL w) : Calls Tryz.prog 29 #[.string ⟨l.toArray⟩] w (CPR l w) := by
  obtain ⟨ih, iha, ihb, ihc, ihd⟩ := info_parts infoHash
  have HT := Hid.of hT
  clear hT
  go_enter Tryz.func29, Tryz.ntmps29
  go_wp2
  go_loopw [0, 2, 5, 6, 7, 8, 9] (fun v0 v2 _ _ _ _ _ wr => ∃ (hs : List (List UInt8)) (r : List UInt8), v0 = .string ⟨r.toArray⟩ ∧ Hid (l = hs.flatMap hln ++ r ∧ (∀ h ∈ hs, h.length = 32) ∧ hs.length ≤ 64 ∧ HO wr w.heap.size v2 hs ∧ Up w wr)) (fun v0 _ _ _ _ _ _ _ => slenW v0)
  case atStart => exact ⟨[], l, rfl, Hid.of ⟨rfl, (fun h hh => by cases hh), by simp, World.ownsRow_nil _ _ _ _, Up.refl _⟩⟩
  case round =>
    obtain ⟨hs, r, rfl, HK⟩ := hrel
    have hrl : r.length ≤ 1048576 := by have h1 := congrArg List.length HK.out.1; rw [List.length_append] at h1; omega
    go_wp2_with fail
    refine (Cut1_walk ⟨r.toArray⟩ (by rw [Go.Lib.size_eq]; exact hrl) 10 wr).mono ?_
    rintro e w1 ⟨rfl, n, rfl⟩
    have HU1 := Hid.of ((Up.refl wr).drewN n)
    generalize wr.drewN n = w1 at *
    rw [show (⟨r.toArray⟩ : ByteArray).data.toList = r from rfl]
    rcases cut_at r 10 with ⟨a, b, hcut, hr, hna⟩ | ⟨hcut, hnr⟩
    · rw [hcut]
      clear hcut
      dsimp only
      by_cases ha : a = []
      · subst ha
        have HY := Hid.of (show l = hs.flatMap hln ++ 10 :: b by rw [HK.out.1, hr]; rfl)
        have HH := Hid.of (HK.out.2.2.2.1.up HU1.out)
        have HUU := Hid.of (HK.out.2.2.2.2.trans HU1.out)
        clear hr hna hrl
        go_wp2
        go_ret3
        exact ⟨HUU.out, .inl ⟨hs, b, _, HK.out.2.1, HK.out.2.2.1, HY.out, rfl, HH.out⟩⟩
      · skip
        obtain ⟨sa, hsa⟩ : ∃ s, (⟨a.toArray⟩ : ByteArray) = s := ⟨_, rfl⟩
        have hse : sa.data.toList = a := by rw [← hsa]
        have hne : sa.toList.isEmpty = false := by
          rw [Go.Lib.toList_data, hse]
          cases a with
          | nil => exact absurd rfl ha
          | cons c a => rfl
        rw [hsa]
        have HR := Hid.of (And.intro hr (And.intro hna ha))
        have hH := hashIn_walk sa w1 (HT.out.up (HK.out.2.2.2.2.trans HU1.out))
        rw [hse] at hH
        clear hr hna ha hsa hse
        obtain ⟨y, hy⟩ : ∃ y, hsV a = y := ⟨_, rfl⟩
        have hy32 : y.length = 32 := by rw [← hy]; exact hsV_len a
        have HYV := Hid.of (And.intro hy trivial)
        rw [hy] at hH
        clear hy
        have hcl : (cb y).length = 32 := by rw [cb_length]; exact hy32
        obtain ⟨pa, pc, hpv⟩ := rowH HK.out.2.2.2.1
        obtain ⟨n, hn⟩ : ∃ n, hs.length = n := ⟨_, rfl⟩
        rw [hn] at hpv
        subst hpv
        have HN := Hid.of (And.intro hn trivial)
        have hn64 : n ≤ 64 := by rw [← hn]; exact HK.out.2.2.1
        clear hn
        go_wp2_with fail
        refine hH.mono ?_
        rintro e w2 ⟨rfl, q2⟩
        have HU2 := Hid.of (HU1.out.trans q2)
        clear hH q2 HU1
        dsimp only
        go_wp2_with (with_reducible show wpList _ _ _ ({ dst := _, op := Op.store 49 _ _, type := _, pos := _, after := _, guard := _ } :: _) _ _; refine Shut.out ?_)
        show wpList _ _ _ _ _ _
        change wpList _ _ _ _ _ (w2.alloc (Obj.cells (cb zH).toArray 49))
        have ht := there_new w2 (cb zH) 49
        have hu0 := (Up.refl w2).alloc (Obj.cells (cb zH).toArray 49)
        generalize w2.alloc (Obj.cells (cb zH).toArray 49) = W4 at *
        refine wpList_store_mid rfl _ _ _ rfl w2.heap.size 0 (cb y).toArray rfl rfl (by rw [show (cb y).toArray.size = 32 from hcl]; exact ht) (by rw [show (cb y).toArray.size = 32 from hcl]; exact infoHs) (all_oneCell_toArray (cb_one _)) ?_
        simp only [Act.put]
        have HU5 := Hid.of (HU2.out.trans (up_setCells (W := w2) (Nat.le_refl _) (cb y).toArray.toList 0 hu0))
        have HRX := Hid.of (show (World.setCells W4 w2.heap.size 0 (cb y).toArray.toList).rangeAt w2.heap.size 0 (cb y) from World.rangeAt_setCells_same W4 w2.heap.size 0 (cb y) (by rw [hcl]; exact ht))
        generalize World.setCells W4 w2.heap.size 0 (cb y).toArray.toList = W5 at *
        generalize w2.heap.size = hb at *
        clear ht hu0 HU2
        have HUU := Hid.of (HK.out.2.2.2.2.trans HU5.out)
        cases hI : hsI a with
        | none =>
          have HNO := Hid.of (cp_no HK.out.1 HK.out.2.1 (fun ks m k32 _ e => by
            obtain ⟨k, ks', rfl, hk⟩ := cp_first HR.out.2.1 HR.out.2.2 (HR.out.1.symm.trans e)
            rw [hk, hsI_b64 (k32 k List.mem_cons_self)] at hI
            cases hI))
          clear hI hrl
          dsimp only [Option.isSome]
          go_wp2
          go_ret3
          exact ⟨HUU.out, .inr ⟨HNO.out, rfl⟩⟩
        | some x =>
          obtain rfl : y = x := by have h1 := HYV.out.1; unfold hsV at h1; rw [hI] at h1; exact h1.symm
          have HB := Hid.of (hsI_some hI).1
          clear hI
          dsimp only [Option.isSome]
          by_cases h64 : n = 64
          · have HNO := Hid.of (cp_no HK.out.1 HK.out.2.1 (fun ks m _ kn e => by
              obtain ⟨k, ks', rfl, hk⟩ := cp_first HR.out.2.1 HR.out.2.2 (HR.out.1.symm.trans e)
              rw [List.length_append, HN.out.1] at kn
              simp only [List.length_cons] at kn
              omega))
            have h64z : (n : Int) = 64 := by omega
            clear hrl
            go_wp2
            go_ret3
            exact ⟨HUU.out, .inr ⟨HNO.out, rfl⟩⟩
          · have h64z : ¬ (n : Int) = 64 := by omega
            go_wp2_with (with_reducible show wpList _ _ _ ({ dst := _, op := Op.load 49 _, type := _, pos := _, after := _, guard := _ } :: _) _ _; refine Shut.out ?_)
            show wpList _ _ _ _ _ _
            refine wpList_load_mid rfl _ _ rfl hb 0 rfl (cb y) _ HRX.out Tryz.underlying49 rfl (by rw [hcl]; exact infoHs) ?_
            simp only [Act.put, List.setIfInBounds_toArray, List.set_cons_zero, List.set_cons_succ]
            refine wpList_buildHs rfl _ rfl hy32 (by simp only [List.map_toArray, List.map_cons, List.map_nil]; rfl) ?_
            simp only [Act.put, List.setIfInBounds_toArray, List.set_cons_zero, List.set_cons_succ]
            have HU6 := Hid.of ((Up.refl W5).alloc (.cells (cb y).toArray 49))
            have HA6 := Hid.of (fun (j : Nat) (u : Value) (hu : (cb y)[j]? = some u) => show (W5.alloc (.cells (cb y).toArray 49)).cell? ((⟨W5.heap.size, 0, none⟩ : Addr).add j) = some u by
              rw [add_plain, World.cell?_alloc_at _ _ _ _ rfl, Nat.zero_add]
              simpa using hu)
            have hO := (HK.out.2.2.2.1.up HU5.out).up HU6.out
            unfold HO at hO
            rw [HN.out.1] at hO
            refine wpList_append_own _ rfl _ _ 26 rfl w.heap.size 49 ih (.agg (cb zH).toArray) 32 32 Tryz.underlying26 iha ihb ihc ihd rfl (by decide) (.slice pa n pc) n (hs.flatMap cb) rfl hO ⟨W5.heap.size, 0, none⟩ 1 1 (cb y) rfl (by rw [hcl]) (fun j u hu => HA6.out j u hu) (fun u hu => cb_one y u hu) (by simp only [maxLen]; omega) (by omega) (HUU.out.trans HU6.out).size ?_
            intro v7 w7 o7 g7 _
            simp only [Act.put, List.setIfInBounds_toArray, List.set_cons_zero, List.set_cons_succ]
            have HNX := Hid.of (show l = (hs ++ [y]).flatMap hln ++ b ∧ (∀ h ∈ hs ++ [y], h.length = 32) ∧ (hs ++ [y]).length ≤ 64 ∧ HO w7 w.heap.size v7 (hs ++ [y]) ∧ Up w w7 from ⟨by
              rw [HK.out.1, HR.out.1, ← HB.out]
              simp [hln], fun h hh => by
              rcases List.mem_append.1 hh with h1 | h1
              · exact HK.out.2.1 h h1
              · rw [List.mem_singleton.1 h1]; exact hy32, by rw [List.length_append, HN.out.1]; simp only [List.length_cons, List.length_nil]; omega, by
              unfold HO
              rw [flatB_snoc, List.length_append, HN.out.1]
              exact o7, (HUU.out.trans HU6.out).by' g7 (fun g hg => (World.ownsRow.lt hO g hg).1)⟩)
            have hml : b.length < r.length := by rw [HR.out.1, List.length_append, List.length_cons]; omega
            clear o7 g7 hO HU6 HA6 HU5 HUU HRX HB HYV
            go_wp2
            go_roundw
            case rel => exact ⟨hs ++ [y], b, rfl, HNX⟩
            case measure => simp only [slenW, Go.Lib.size_eq]; exact hml
    · rw [hcut]
      have HNO := Hid.of (cp_no HK.out.1 HK.out.2.1 (fun ks m _ _ e => hnr (by rw [e]; simp)))
      have HUU := Hid.of (HK.out.2.2.2.2.trans HU1.out)
      clear hcut hnr hrl
      dsimp only
      go_wp2
      go_ret3
      exact ⟨HUU.out, .inr ⟨HNO.out, rfl⟩⟩
end Go.Proofs.YtaobnnlcfefodaaGreatDoor
namespace Go.Proofs.YtaobnnlcfefodaaGreatDoor
open Go.RowKit TextNum
theorem old_pre {l : List UInt8} (h : Go.Lib.hasPrefix l OLD = true) : l = OLD ++ l.drop 4 := by
  unfold Go.Lib.hasPrefix at h
  obtain ⟨t, ht⟩ := List.isPrefixOf_iff_prefix.1 h
  rw [← ht]
  rfl
theorem old_has (t : List UInt8) : Go.Lib.hasPrefix (OLD ++ t) OLD = true := by
  unfold Go.Lib.hasPrefix
  exact List.isPrefixOf_iff_prefix.2 ⟨t, rfl⟩
theorem szI_yes {a : List UInt8} (hl : a.length ≤ 1048576) {q : Int} (h : szI a = (q, true)) : a = OLD ++ Go.Lib.itoa q ∧ 0 ≤ q ∧ q ≤ 281474976710656 := by
  unfold szI at h
  split at h
  · rename_i hp
    injection h with h1 h2
    obtain ⟨k0, k1, k2⟩ := prs_iff (l := a.drop 4) (by rw [List.length_drop]; omega) (of_decide_eq_true h2)
    rw [h1] at k0 k1 k2
    exact ⟨by rw [k2]; exact old_pre hp, k0, k1⟩
  · injection h with _ h2
    cases h2
theorem szI_back {o : Int} (h0 : 0 ≤ o) (h1 : o ≤ 281474976710656) : szI (OLD ++ Go.Lib.itoa o) = (o, true) := by
  unfold szI
  rw [if_pos (old_has _), show (OLD ++ Go.Lib.itoa o).drop 4 = Go.Lib.itoa o from rfl, prs_back h0 h1]
  rfl
theorem results_tmp4 {fn : Func} {t u v x : Tmp} (h : fn.results = #[.tmp t, .tmp u, .tmp v, .tmp x]) (tmps : Array Value) (P : Program) (w : World) :
    (results fn tmps).run P w = .ok (.tuple #[tmps.getD t undef, tmps.getD u undef, tmps.getD v undef, tmps.getD x undef]) w := by
  simp [results, h]
theorem ho_base {w : World} {B B' : Nat} {v : Value} {hs : List (List UInt8)} (h : HO w B v hs) (k : B' ≤ B) : HO w B' v hs := by
  refine ⟨h.1, ?_⟩
  rcases h.2 with e | ⟨g, cap, cur, rfl, hb, r⟩
  · exact .inl e
  · exact .inr ⟨g, cap, cur, rfl, Nat.le_trans k hb, r⟩
/-- is it an ask? -/
def Ask (l : List UInt8) : Prop := ∃ o hs m, VA o hs m ∧ l = fmA o hs m
theorem ask_parts {l a b : List UInt8} (e : l = a ++ 10 :: b) (hna : (10 : UInt8) ∉ a) (h : Ask l) : (szI a).2 = true ∧ ∃ (hs : List (List UInt8)) (m : List UInt8), (∀ h ∈ hs, h.length = 32) ∧ hs.length ≤ 64 ∧ isNt m ∧ b = hs.flatMap hln ++ 10 :: m := by
  obtain ⟨o, hs, m, v, e'⟩ := h
  obtain ⟨e1, e2⟩ := first10 hna (old_no10 v.o0) (e.symm.trans e')
  exact ⟨by rw [e1, szI_back v.o0 v.o1], hs, m, v.l, v.n, v.m, e2⟩
/-- ParseAsk's error -/
def paE (k : Nat) : Int := if 69000 < k then 2 else 211
theorem paE_ne (k : Nat) : paE k ≠ 0 := by unfold paE; split <;> decide
/-- what ParseAsk answers -/
def PAR (l : List UInt8) (w : World) (e : Ending) (w' : World) : Prop := ∃ n pv hv er, e = .returned (.tuple #[.int .i64 n, pv, hv, .int .i64 er]) ∧ Up w w' ∧
  ((er = 0 ∧ ∃ hs m, VA n hs m ∧ l = fmA n hs m ∧ HO w' w.heap.size pv hs ∧ OwnM w' w.heap.size hv m ∧ ∀ g, pv.ownBlock = some g → hv.ownBlock ≠ some g) ∨ (er = paE l.length ∧ n = 0 ∧ pv = .slice none 0 0 ∧ hv = .slice none 0 0 ∧ ¬ Ask l))
set_option maxRecDepth 100000 in
set_option maxHeartbeats 4000000 in
theorem ParseAsk_walk (v : Value) (l : List UInt8) (w : World) (hS : Sl w v l) (hT : TabL w) (hW : Go.Lib.WhiteTab 6 w) (hG : GN w) : Calls Tryz.prog 15 #[v] w (PAR l w) := by
  have HT := Hid.of hT
  have HW := Hid.of hW
  have HG := Hid.of hG
  have HC := Hid.of (conv_sl hS)
  clear hT hW hG
  obtain ⟨sa, sc, rfl, hc, _⟩ := hS
  obtain ⟨n, hn⟩ : ∃ n, l.length = n := ⟨_, rfl⟩
  rw [hn] at hc HC ⊢
  go_enter Tryz.func15, Tryz.ntmps15
  by_cases hL : 69000 < n
  · have hLz : (69000 : Int) < (n : Int) := by omega
    have HNO := Hid.of (show ¬ Ask l from fun ⟨o, hs, m, vv, e⟩ => by have := fm_len vv; rw [← e] at this; omega)
    have HER := Hid.of (show paE l.length = 2 by rw [hn]; exact if_pos hL)
    clear hn
    go_wp2
    try simp only [Exit.inBlock, Exit.then]
    refine bodyPost_ret (results_tmp4 rfl _ _ _) rfl ?_
    exact ⟨_, _, _, _, rfl, Up.refl _, .inr ⟨HER.out.symm, rfl, rfl, rfl, HNO.out⟩⟩
  have HER := Hid.of (show paE l.length = 211 by rw [hn]; exact if_neg hL)
  have hLz : ¬ (69000 : Int) < (n : Int) := by omega
  have hcv := HC.out
  rw [show vs l = .string ⟨l.toArray⟩ from rfl] at hcv
  go_wp2_with fail
  refine (Cut1_walk ⟨l.toArray⟩ (by rw [Go.Lib.size_eq]; show l.length ≤ 1048576; omega) 10 w).mono ?_
  rintro e w1 ⟨rfl, k, rfl⟩
  have HU1 := Hid.of ((Up.refl w).drewN k)
  generalize w.drewN k = w1 at *
  rw [show (⟨l.toArray⟩ : ByteArray).data.toList = l from rfl]
  obtain ⟨a, b, f, hcut, hab, hal, hbl⟩ : ∃ a b f, Go.Lib.cut l [10] = (a, b, f) ∧ ((l = a ++ 10 :: b ∧ (10 : UInt8) ∉ a) ∨ ((10 : UInt8) ∉ l ∧ b = [])) ∧ a.length ≤ 69000 ∧ b.length ≤ 69000 := by
    rcases cut_at l 10 with ⟨a, b, h1, h2, h3⟩ | ⟨h1, h2⟩
    · have := congrArg List.length h2
      rw [List.length_append, List.length_cons] at this
      exact ⟨a, b, true, h1, .inl ⟨h2, h3⟩, by omega, by omega⟩
    · exact ⟨l, [], false, h1, .inr ⟨h2, rfl⟩, by omega, by simp⟩
  rw [hcut]
  have HAB := Hid.of hab
  clear hcut hab hcv HC hL hn hc
  dsimp only
  have hZ := sizeIn_walk ⟨a.toArray⟩ w1 (HG.out.up HU1.out)
  rw [show (⟨a.toArray⟩ : ByteArray).data.toList = a from rfl] at hZ
  obtain ⟨q, bo, hq⟩ : ∃ q bo, szI a = (q, bo) := ⟨_, _, rfl⟩
  rw [hq] at hZ
  have HQ := Hid.of hq
  clear hq
  go_wp2_with fail
  refine hZ.mono ?_
  rintro e w2 ⟨rfl, u2⟩
  have HU2 := Hid.of (HU1.out.trans u2)
  clear hZ u2 HU1
  dsimp only
  go_wp2_with fail
  refine (cutProof_walk b (by omega) w2 (HT.out.up HU2.out)).mono ?_
  rintro e w3 ⟨u3, hcp⟩
  have HU3 := Hid.of (HU2.out.trans u3)
  have HS2 := Hid.of HU2.out.size
  clear u3 HU2
  rcases hcp with ⟨hs, r, pv, h32, h64, hb, rfl, hO⟩ | ⟨hno, rfl⟩
  · have hrl : r.length ≤ 69000 := by have := congrArg List.length hb; rw [List.length_append, List.length_cons] at this; omega
    have HB := Hid.of (And.intro hb (And.intro h32 h64))
    have HOO := Hid.of hO
    clear hb h32 h64 hO
    dsimp only
    go_wp2_with (with_reducible show wpList _ _ _ ({ dst := _, op := Op.convert 9 23 _, type := _, pos := _, after := _, guard := _ } :: _) _ _; refine Shut.out ?_)
    show wpList _ _ _ _ _ _
    refine wpList_conv rfl _ rfl ⟨r.toArray⟩ (by rw [Go.Lib.size_eq]; show r.length ≤ 140737488355328; omega) rfl ?_
    intro v4 w4 hO4 q4
    have HDJ := Hid.of (show ∀ g, pv.ownBlock = some g → v4.ownBlock ≠ some g from fun g hg e => by
      have h1 := (World.ownsRow.lt HOO.out g hg).2
      obtain ⟨g', _, _, _, e1, hB, _⟩ := hO4
      rw [e1] at e
      injection e with e
      rw [← e] at h1
      exact absurd h1 (Nat.not_lt.2 hB))
    have HM4 := Hid.of (show OwnM w4 w.heap.size v4 r from hO4.base HU3.out.size)
    have HU4 := Hid.of (HU3.out.trans q4)
    have HP4 := Hid.of (HOO.out.up q4)
    clear hO4 q4 HU3 HOO
    simp only [Act.put, List.setIfInBounds_toArray, List.set_cons_zero, List.set_cons_succ]
    cases bo with
    | false =>
      have HNO := Hid.of (show ¬ Ask l from fun h => by
        rcases HAB.out with ⟨h1, h2⟩ | ⟨h1, h2⟩
        · have h3 := (ask_parts h1 h2 h).1
          rw [HQ.out] at h3
          cases h3
        · obtain ⟨o, hs', m', _, e⟩ := h
          exact h1 (by rw [e]; simp [fmA]))
      go_wp2
      try simp only [Exit.inBlock, Exit.then]
      refine bodyPost_ret (results_tmp4 rfl _ _ _) rfl ?_
      exact ⟨_, _, _, _, rfl, HU4.out, .inr ⟨HER.out.symm, rfl, rfl, rfl, HNO.out⟩⟩
    | true =>
      have hI := isNote_walk v4 r w4 HM4.out.sl (HT.out.up HU4.out) (WhiteTab_up HW.out HU4.out)
      by_cases hnt : ¬ isNt r
      · replace hI := hI false ⟨(fun h => by cases h), fun h => (hnt h).elim⟩
        have HNO := Hid.of (show ¬ Ask l from fun h => by
          rcases HAB.out with ⟨h1, h2⟩ | ⟨h1, h2⟩
          · obtain ⟨_, hs', m', k1, k2, k3, k4⟩ := ask_parts h1 h2 h
            obtain ⟨_, e2⟩ := hln_inj HB.out.2.1 k1 (HB.out.1.symm.trans k4)
            rw [e2] at hnt
            exact hnt k3
          · obtain ⟨o, hs', m', _, e⟩ := h
            exact h1 (by rw [e]; simp [fmA]))
        clear hnt
        go_wp2_with fail
        refine hI.mono ?_
        rintro e w5 ⟨rfl, q5⟩
        have HU5 := Hid.of (HU4.out.trans q5)
        clear hI q5
        dsimp only
        go_wp2
        try simp only [Exit.inBlock, Exit.then]
        refine bodyPost_ret (results_tmp4 rfl _ _ _) rfl ?_
        exact ⟨_, _, _, _, rfl, HU5.out, .inr ⟨HER.out.symm, rfl, rfl, rfl, HNO.out⟩⟩
      · have hnt : isNt r := Classical.not_not.1 hnt
        replace hI := hI true ⟨fun _ => hnt, fun _ => rfl⟩
        have HYES := Hid.of (show VA q hs r ∧ l = fmA q hs r by
          obtain ⟨e1, e2, e3⟩ := szI_yes (by omega) HQ.out
          refine ⟨⟨e2, e3, HB.out.2.2, HB.out.2.1, hnt⟩, ?_⟩
          rcases HAB.out with ⟨h1, h2⟩ | ⟨h1, h2⟩
          · rw [h1, e1, HB.out.1]
            rfl
          · have h3 := HB.out.1
            rw [h2] at h3
            simp at h3)
        clear hnt
        go_wp2_with fail
        refine hI.mono ?_
        rintro e w5 ⟨rfl, q5⟩
        have HU5 := Hid.of (HU4.out.trans q5)
        have HM5 := Hid.of (HM4.out.up q5)
        have HP5 := Hid.of (ho_base (HP4.out.up q5) HS2.out)
        clear hI q5
        dsimp only
        go_wp2
        try simp only [Exit.inBlock, Exit.then]
        refine bodyPost_ret (results_tmp4 rfl _ _ _) rfl ?_
        exact ⟨_, _, _, _, rfl, HU5.out, .inl ⟨rfl, hs, r, HYES.out.1, HYES.out.2, HP5.out, HM5.out, HDJ.out⟩⟩
  · have HNO := Hid.of (show ¬ Ask l from fun h => by
      rcases HAB.out with ⟨h1, h2⟩ | ⟨h1, h2⟩
      · obtain ⟨_, hs', m', k1, k2, _, k4⟩ := ask_parts h1 h2 h
        exact hno ⟨hs', m', k1, k2, k4⟩
      · obtain ⟨o, hs', m', _, e⟩ := h
        exact h1 (by rw [e]; simp [fmA]))
    clear hno
    dsimp only
    go_wp2_with (with_reducible show wpList _ _ _ ({ dst := _, op := Op.convert 9 23 _, type := _, pos := _, after := _, guard := _ } :: _) _ _; refine Shut.out ?_)
    show wpList _ _ _ _ _ _
    refine wpList_conv rfl _ rfl ⟨#[]⟩ (by decide) rfl ?_
    intro v4 w4 hO4 q4
    have HU4 := Hid.of (HU3.out.trans q4)
    clear hO4 q4 HU3
    simp only [Act.put, List.setIfInBounds_toArray, List.set_cons_zero, List.set_cons_succ]
    cases bo with
    | false =>
      go_wp2
      try simp only [Exit.inBlock, Exit.then]
      refine bodyPost_ret (results_tmp4 rfl _ _ _) rfl ?_
      exact ⟨_, _, _, _, rfl, HU4.out, .inr ⟨HER.out.symm, rfl, rfl, rfl, HNO.out⟩⟩
    | true =>
      go_wp2
      try simp only [Exit.inBlock, Exit.then]
      refine bodyPost_ret (results_tmp4 rfl _ _ _) rfl ?_
      exact ⟨_, _, _, _, rfl, HU4.out, .inr ⟨HER.out.symm, rfl, rfl, rfl, HNO.out⟩⟩
end Go.Proofs.YtaobnnlcfefodaaGreatDoor
namespace Go.Proofs.YtaobnnlcfefodaaGreatDoor
open Go.RowKit TextNum
set_option maxRecDepth 100000 in
theorem wnum_walk (z : Int) (w : World) : Calls Tryz.prog 8 #[.int .i64 z] w fun e w' => e = .returned (.int .i64 z) ∧ w' = w := by
  go_enter Tryz.func8, Tryz.ntmps8
  go_wp2
  go_ret
  exact ⟨rfl, rfl⟩
theorem infoA32 : (Tryz.prog.info? 48).map (·.size) = some 32 := by kernel_rfl
set_option maxRecDepth 100000 in
set_option maxHeartbeats 4000000 in
/-- the law's hashes: a copy -/
theorem hashes_walk (v : Value) (hs : List (List UInt8)) (w : World) (hP : HL w v hs) (hl : hs.length * 32 ≤ 140737488355328) : Calls Tryz.prog 16 #[v] w fun e w' => ∃ u, e = .returned u ∧ HO w' w.heap.size u hs ∧ Up w w' := by
  obtain ⟨ih, iha, ihb, ihc, ihd⟩ := info_parts infoHash
  obtain ⟨pa, pc, rfl, hpc, hpx⟩ := hP
  have HPX := Hid.of hpx
  obtain ⟨n, hn⟩ : ∃ n, hs.length = n := ⟨_, rfl⟩
  have HN := Hid.of (And.intro hn trivial)
  rw [hn] at hpc hl ⊢
  clear hpx hn
  go_enter Tryz.func16, Tryz.ntmps16
  go_wp2
  go_loopw [3, 4] (fun v3 v4 wr => ∃ i : Nat, v4 = .int .i64 (i : Int) ∧ i ≤ n ∧ Hid (HO wr w.heap.size v3 (hs.take i) ∧ Up w wr)) (fun _ v4 _ => n - (intOf v4).toNat)
  case atStart => exact ⟨0, rfl, by omega, Hid.of ⟨World.ownsRow_nil _ _ _ _, Up.refl _⟩⟩
  case round =>
    obtain ⟨i, rfl, hi, HK⟩ := hrel
    by_cases hlt : i < n
    · have hltz : (i : Int) < (n : Int) := by omega
      have hpcz : (n : Int) ≤ (pc : Int) := by omega
      have hiw : IntKind.i64.wrap ((i : Int) + 1) = (i : Int) + 1 := by rw [IntKind.wrap_i64]; omega
      have hil : i < hs.length := by rw [HN.out.1]; exact hlt
      obtain ⟨hx32, b, off, rfl, hbl, hrg⟩ := HPX.out i hil
      obtain ⟨x, hx⟩ : ∃ x, hs[i] = x := ⟨_, rfl⟩
      rw [hx] at hx32 hrg
      have HX := Hid.of (And.intro (show hs.take (i + 1) = hs.take i ++ [x] by rw [List.take_succ_eq_append_getElem hil, hx]) (show (hs.take i).length = i by rw [List.length_take]; omega))
      have hcl : (cb x).length = 32 := by rw [cb_length]; exact hx32
      have HRG := Hid.of (range_upW hrg HK.out.2)
      clear hx hrg
      go_wp2_with (with_reducible show wpList _ _ _ ({ dst := _, op := Op.load 48 _, type := _, pos := _, after := _, guard := _ } :: _) _ _; refine Shut.out ?_)
      show wpList _ _ _ _ _ _
      refine wpList_load_mid rfl _ _ rfl b (off + i * 32) rfl (cb x) _ HRG.out Tryz.underlying48 rfl (by rw [hcl]; exact infoA32) ?_
      simp only [Act.put, List.setIfInBounds_toArray, List.set_cons_zero, List.set_cons_succ]
      refine wpList_buildHs rfl _ rfl hx32 (by simp only [List.map_toArray, List.map_cons, List.map_nil]; rfl) ?_
      simp only [Act.put, List.setIfInBounds_toArray, List.set_cons_zero, List.set_cons_succ]
      have HU6 := Hid.of ((Up.refl wr).alloc (.cells (cb x).toArray 49))
      have HA6 := Hid.of (fun (j : Nat) (u : Value) (hu : (cb x)[j]? = some u) => show (wr.alloc (.cells (cb x).toArray 49)).cell? ((⟨wr.heap.size, 0, none⟩ : Addr).add j) = some u by
        rw [add_plain, World.cell?_alloc_at _ _ _ _ rfl, Nat.zero_add]
        simpa using hu)
      have hO := HK.out.1.up HU6.out
      unfold HO at hO
      rw [HX.out.2] at hO
      refine wpList_append_own _ rfl _ _ 26 rfl w.heap.size 49 ih (.agg (cb zH).toArray) 32 32 Tryz.underlying26 iha ihb ihc ihd rfl (by decide) u3 i ((hs.take i).flatMap cb) rfl hO ⟨wr.heap.size, 0, none⟩ 1 1 (cb x) rfl (by rw [hcl]) (fun j u hu => HA6.out j u hu) (fun u hu => cb_one x u hu) (by simp only [maxLen]; omega) (by omega) (HK.out.2.trans HU6.out).size ?_
      intro v7 w7 o7 g7 _
      simp only [Act.put, List.setIfInBounds_toArray, List.set_cons_zero, List.set_cons_succ]
      have HNX := Hid.of (show HO w7 w.heap.size v7 (hs.take (i + 1)) ∧ Up w w7 from ⟨by
        unfold HO
        rw [HX.out.1, flatB_snoc, List.length_append, HX.out.2]
        exact o7, (HK.out.2.trans HU6.out).by' g7 (fun g hg => (World.ownsRow.lt hO g hg).1)⟩)
      clear o7 g7 hO HU6 HA6 HRG HX HK
      go_wp2
      go_roundw
      case rel => exact ⟨i + 1, by go_num, by omega, HNX⟩
      case measure => simp [intOf]; omega
    · have hltz : ¬ (i : Int) < (n : Int) := by omega
      obtain rfl : i = n := by omega
      have HZ := Hid.of (show hs.take i = hs by rw [← HN.out.1, List.take_length])
      go_wp2
      go_ret
      exact ⟨_, rfl, by rw [← HZ.out]; exact HK.out.1, HK.out.2⟩
/-- the small note at the law's head -/
def smN : List UInt8 := [97, 10, 10, 226, 128, 148, 32, 97, 32, 65, 65, 65, 65, 66, 51, 103, 61, 10]
theorem sm_fmt : fmtN (⟨#[97, 10]⟩ : ByteArray).data.toList [⟨⟨#[97]⟩, 7, [120]⟩] = smN := by decide
theorem sm_note : isNt smN := by
  have h := split_fmt (t := ⟨#[97, 10]⟩) (ss := [⟨⟨#[97]⟩, 7, [120]⟩]) (by unfold Lng; decide) ⟨⟨by decide, by decide⟩, by simp, fun s hs => by
    obtain rfl := List.mem_singleton.1 hs
    exact ⟨by decide, by simp⟩⟩ (fun s hs => by
    obtain rfl := List.mem_singleton.1 hs
    decide)
  rw [sm_fmt] at h
  exact nt_iff.2 ⟨h.2, _, _, h.1⟩
def smA : List UInt8 := fmA 7 [zH] smN
theorem sm_ask : VA 7 [zH] smN := ⟨by decide, by decide, by decide, fun h hh => by rw [List.mem_singleton.1 hh]; rfl, sm_note⟩
end Go.Proofs.YtaobnnlcfefodaaGreatDoor
