import Derived.Test.YtaobnnlcfefodaaDoorWc
import Derived.Test.YtaobnnlcfefodaaDoorLx
namespace Go.Proofs.YtaobnnlcfefodaaDoor
open Go.RowKit TextNum
set_option maxRecDepth 100000 in
theorem build_hs : ∀ (x : List UInt8), x.length = 32 → ∀ w : World, (Instr.buildSlice 31 1 #[(0, .agg (cb x).toArray)]).run Tryd.prog w = .ok (.slice (some ⟨w.heap.size, 0, none⟩) 1 1) (w.alloc (.cells (cb x).toArray 30))
  | [x0, x1, x2, x3, x4, x5, x6, x7, x8, x9, x10, x11, x12, x13, x14, x15, x16, x17, x18, x19, x20, x21, x22, x23, x24, x25, x26, x27, x28, x29, x30, x31], _, w => by kernel_rfl
theorem exec_buildHs {ρ : Operand → Value} {o : Oper} {ps : Array (Nat × Operand)} {w : World} {x : List UInt8} (hx : x.length = 32) (ho : o.op = .buildSlice 31 1 ps) (hv : (ps.map fun (i, y) => (i, ρ y)) = #[(0, .agg (cb x).toArray)]) : (execOp ρ o).run Tryd.prog w = .ok (.value (.slice (some ⟨w.heap.size, 0, none⟩) 1 1)) (w.alloc (.cells (cb x).toArray 30)) := by
  unfold execOp
  simp only [ho, hv, Sem.run_bind, build_hs x hx w, Result.andThen_ok, Sem.run_pure]
theorem wpList_buildHs {ops : Array Oper} {rest : List Oper} {o : Oper} {a : Act} {w : World} {Q : Exit → Act → World → Prop} (hgd : o.guard = none) (ps : Array (Nat × Operand)) (ho : o.op = .buildSlice 31 1 ps) {x : List UInt8} (hx : x.length = 32) (hv : (ps.map fun (i, y) => (i, a.eval y)) = #[(0, .agg (cb x).toArray)])
    (h : wpList Tryd.prog ops Q rest (a.put o.dst (.slice (some ⟨w.heap.size, 0, none⟩) 1 1)) (w.alloc (.cells (cb x).toArray 30))) : wpList Tryd.prog ops Q (o :: rest) a w :=
  wpList_plain hgd fun K hK => by
    unfold Oper.wp
    rw [exec_buildHs hx ho hv]
    exact hK _ _ h
/-- a list of hashes of one's own -/
def HO (w : World) (B : Nat) (v : Value) (hs : List (List UInt8)) : Prop := w.ownsRow B 30 32 v hs.length (hs.flatMap cb)
theorem infoHash : (Tryd.prog.info? 30).map (fun i => (i.zero, i.size, i.bytes)) = some (some (.agg (cb zH).toArray), 32, 32) := by kernel_rfl
theorem hs_len : ∀ (hs : List (List UInt8)), (∀ h ∈ hs, h.length = 32) → (hs.flatMap cb).length = hs.length * 32
  | [], _ => rfl
  | h :: hs, l => by
    have e := hs_len hs (fun x hx => l x (List.mem_cons_of_mem _ hx))
    simp only [List.flatMap_cons, List.length_append, e, cb_length, l h List.mem_cons_self, List.length_cons]
    omega
theorem hs_get : ∀ (hs : List (List UInt8)), (∀ h ∈ hs, h.length = 32) → ∀ (j : Nat) (hj : j < hs.length) (i : Nat) (u : Value), (cb hs[j])[i]? = some u → (hs.flatMap cb)[j * 32 + i]? = some u
  | [], _, j, hj, _, _, _ => by cases hj
  | h :: hs, l, j, hj, i, u, hu => by
    have hl : (cb h).length = 32 := by rw [cb_length]; exact l h List.mem_cons_self
    rw [List.flatMap_cons]
    cases j with
    | zero =>
      have hi : i < (cb h).length := (List.getElem?_eq_some_iff.1 hu).1
      rw [List.getElem?_append_left (by omega), Nat.zero_mul, Nat.zero_add]
      exact hu
    | succ j =>
      rw [List.getElem?_append_right (by omega), hl, show (j + 1) * 32 + i - 32 = j * 32 + i by omega]
      exact hs_get hs (fun x hx => l x (List.mem_cons_of_mem _ hx)) j (by simpa using hj) i u (by simpa using hu)
theorem HO.hl {w : World} {B : Nat} {v : Value} {hs : List (List UInt8)} (h : HO w B v hs) (l : ∀ h ∈ hs, h.length = 32) : HL w v hs := by
  rcases h.2 with ⟨rfl, h0⟩ | ⟨g, cap, cur, rfl, _, hg, hc, _⟩
  · refine ⟨none, 0, by rw [h0], by omega, fun j hj => ?_⟩
    omega
  · refine ⟨_, cap, rfl, hc, fun j hj => ⟨l _ (List.getElem_mem hj), g, 0, rfl, (World.ownsRow.lt h g rfl).2, fun i u hu => ?_⟩⟩
    have := World.ownsRow.cells h (g := g) rfl (j * 32 + i) u (hs_get hs l j hj i u hu)
    rw [add_plain, Nat.zero_add] at this
    rw [Nat.zero_add]
    exact this
theorem HO.up {w w' : World} {B : Nat} {v : Value} {hs : List (List UInt8)} (h : HO w B v hs) (u : Up w w') : HO w' B v hs := by
  have hl := World.ownsRow.lt h
  refine ⟨h.1, ?_⟩
  rcases h.2 with e | ⟨g, cap, cur, rfl, hb, hg, r⟩
  · exact .inl e
  · exact .inr ⟨g, cap, cur, rfl, hb, (u.block g (hl g rfl).2).trans hg, r⟩
theorem Up.by' {w0 w w' : World} {row : Option Nat} (h : Up w0 w) (hg : w.grownBy w' row) (hr : ∀ g, row = some g → w0.heap.size ≤ g) : Up w0 w' :=
  ⟨hg.os.trans h.os, hg.tape.trans h.tape, hg.output.trans h.output, Nat.le_trans h.size hg.size, fun j hj => (hg.block j (Nat.lt_of_lt_of_le hj h.size) (fun e => by have := hr j e.symm; omega)).trans (h.block j hj)⟩
def slen : Value → Nat
  | .string s => s.size
  | _ => 0
/-! ### the lines of hashes, read -/
def CPx (l : List UInt8) : Prop := ∃ (hs : List (List UInt8)) (r : List UInt8), (∀ h ∈ hs, h.length = 32) ∧ hs.length ≤ 64 ∧ l = hs.flatMap hln ++ 10 :: r
theorem cp_no {l r : List UInt8} {hs : List (List UInt8)} (e : l = hs.flatMap hln ++ r) (h32 : ∀ h ∈ hs, h.length = 32) (hx : ∀ (ks : List (List UInt8)) (m : List UInt8), (∀ k ∈ ks, k.length = 32) → (hs ++ ks).length ≤ 64 → r ≠ ks.flatMap hln ++ 10 :: m) : ¬ CPx l := by
  rintro ⟨hs', m, l', n', e'⟩
  obtain ⟨ks, e1, e2⟩ := hln_step hs hs' r m h32 l' (e.symm.trans e')
  subst e1
  exact hx ks m (fun k hk => l' k (List.mem_append_right _ hk)) n' e2
theorem cp_first {a b : List UInt8} (hna : (10 : UInt8) ∉ a) (ha : a ≠ []) {ks : List (List UInt8)} {m : List UInt8} (e : a ++ 10 :: b = ks.flatMap hln ++ 10 :: m) : ∃ k ks', ks = k :: ks' ∧ a = b64E k := by
  cases ks with
  | nil => exact absurd (first10 hna (by simp) (by simpa using e)).1 ha
  | cons k ks =>
    have e3 : a ++ 10 :: b = b64E k ++ 10 :: (ks.flatMap hln ++ 10 :: m) := by simpa [hln] using e
    exact ⟨k, ks, rfl, (first10 hna (g_no10' k) e3).1⟩
theorem hsI_some {a x : List UInt8} (h : hsI a = some x) : b64E x = a ∧ x.length = 32 := by
  unfold hsI at h
  split at h
  · rename_i hc
    obtain rfl := Option.some.inj h
    refine ⟨?_, hc.2⟩
    have h0 := hc.1
    unfold b64R at h0 ⊢
    split
    · rw [if_pos (by assumption)] at h0; cases h0
    · rw [if_neg (by assumption)] at h0
      cases hd : b64D a with
      | none => rw [hd] at h0; cases h0
      | some y => exact b64_once a y hd
  · cases h
theorem hsI_b64 {x : List UInt8} (h : x.length = 32) : hsI (b64E x) = some x := by
  have hl : (b64E x).length ≤ 1048576 := by rw [b64E_length, h]; decide
  unfold hsI
  rw [b64R_back x hl, if_pos ⟨rfl, h⟩]
theorem hsV_len (a : List UInt8) : (hsV a).length = 32 := by
  unfold hsV
  cases h : hsI a with
  | none => rfl
  | some x => exact (hsI_some h).2
theorem flatB_snoc (hs : List (List UInt8)) (x : List UInt8) : (hs ++ [x]).flatMap cb = hs.flatMap cb ++ cb x := by simp
theorem rowH {w : World} {B n : Nat} {e : TypeId} {m : Nat} {v : Value} {xs : List Value} (h : w.ownsRow B e m v n xs) : ∃ a c, v = .slice a n c := by
  rcases h.2 with ⟨rfl, rfl⟩ | ⟨g, cap, cur, rfl, _⟩
  · exact ⟨_, _, rfl⟩
  · exact ⟨_, _, rfl⟩
/-- what cutProof answers -/
def CPR (l : List UInt8) (w : World) (e : Ending) (w' : World) : Prop := Up w w' ∧ ((∃ (hs : List (List UInt8)) (r : List UInt8) (v : Value), (∀ h ∈ hs, h.length = 32) ∧ hs.length ≤ 64 ∧ l = hs.flatMap hln ++ 10 :: r ∧ e = .returned (.tuple #[v, .string ⟨r.toArray⟩, .bool true]) ∧ HO w' w.heap.size v hs) ∨ (¬ CPx l ∧ e = .returned (.tuple #[.slice none 0 0, .string ⟨#[]⟩, .bool false])))
set_option maxRecDepth 100000 in
set_option maxHeartbeats 4000000 in
theorem cutProof_walk (l : List UInt8) (hl : l.length ≤ 1048576) (w : World) (hT : TabL w) : Calls Tryd.prog 14 #[.string ⟨l.toArray⟩] w (CPR l w) := by
  obtain ⟨ih, iha, ihb, ihc, ihd⟩ := info_parts infoHash
  have HT := Hid.of hT
  clear hT
  go_enter Tryd.func14, Tryd.ntmps14
  go_wp2
  go_loopw [0, 2, 5, 6, 7, 8, 9] (fun v0 v2 _ _ _ _ _ wr => ∃ (hs : List (List UInt8)) (r : List UInt8), v0 = .string ⟨r.toArray⟩ ∧ Hid (l = hs.flatMap hln ++ r ∧ (∀ h ∈ hs, h.length = 32) ∧ hs.length ≤ 64 ∧ HO wr w.heap.size v2 hs ∧ Up w wr)) (fun v0 _ _ _ _ _ _ _ => slen v0)
  case atStart => exact ⟨[], l, rfl, Hid.of ⟨rfl, (fun h hh => by cases hh), by simp, World.ownsRow_nil _ _ _ _, Up.refl _⟩⟩
  case round =>
    obtain ⟨hs, r, rfl, HK⟩ := hrel
    have hrl : r.length ≤ 1048576 := by have h1 := congrArg List.length HK.out.1; rw [List.length_append] at h1; omega
    go_wp2_with fail
    refine (Cut1_walk ⟨r.toArray⟩ (by rw [Go.Lib.size_eq]; exact hrl) 10 wr).mono ?_
    rintro e w1 ⟨rfl, n, rfl⟩
    have HU1 := Hid.of ((Up.refl wr).drewN n)
    generalize wr.drewN n = w1 at *
    rw [show (⟨r.toArray⟩ : ByteArray).data.toList = r from rfl]
    rcases cut_at r 10 with ⟨a, b, hcut, hr, hna⟩ | ⟨hcut, hnr⟩
    · rw [hcut]
      clear hcut
      dsimp only
      by_cases ha : a = []
      · subst ha
        have HY := Hid.of (show l = hs.flatMap hln ++ 10 :: b by rw [HK.out.1, hr]; rfl)
        have HH := Hid.of (HK.out.2.2.2.1.up HU1.out)
        have HUU := Hid.of (HK.out.2.2.2.2.trans HU1.out)
        clear hr hna hrl
        go_wp2
        go_ret3
        exact ⟨HUU.out, .inl ⟨hs, b, _, HK.out.2.1, HK.out.2.2.1, HY.out, rfl, HH.out⟩⟩
      · skip
        obtain ⟨sa, hsa⟩ : ∃ s, (⟨a.toArray⟩ : ByteArray) = s := ⟨_, rfl⟩
        have hse : sa.data.toList = a := by rw [← hsa]
        have hne : sa.toList.isEmpty = false := by
          rw [Go.Lib.toList_data, hse]
          cases a with
          | nil => exact absurd rfl ha
          | cons c a => rfl
        rw [hsa]
        have HR := Hid.of (And.intro hr (And.intro hna ha))
        have hH := hashIn_walk sa w1 (HT.out.up (HK.out.2.2.2.2.trans HU1.out))
        rw [hse] at hH
        clear hr hna ha hsa hse
        obtain ⟨y, hy⟩ : ∃ y, hsV a = y := ⟨_, rfl⟩
        have hy32 : y.length = 32 := by rw [← hy]; exact hsV_len a
        have HYV := Hid.of (And.intro hy trivial)
        rw [hy] at hH
        clear hy
        have hcl : (cb y).length = 32 := by rw [cb_length]; exact hy32
        obtain ⟨pa, pc, hpv⟩ := rowH HK.out.2.2.2.1
        obtain ⟨n, hn⟩ : ∃ n, hs.length = n := ⟨_, rfl⟩
        rw [hn] at hpv
        subst hpv
        have HN := Hid.of (And.intro hn trivial)
        have hn64 : n ≤ 64 := by rw [← hn]; exact HK.out.2.2.1
        clear hn
        go_wp2_with fail
        refine hH.mono ?_
        rintro e w2 ⟨rfl, q2⟩
        have HU2 := Hid.of (HU1.out.trans q2)
        clear hH q2 HU1
        dsimp only
        go_wp2_with (with_reducible show wpList _ _ _ ({ dst := _, op := Op.store 30 _ _, type := _, pos := _, after := _, guard := _ } :: _) _ _; refine Shut.out ?_)
        show wpList _ _ _ _ _ _
        change wpList _ _ _ _ _ (w2.alloc (Obj.cells (cb zH).toArray 30))
        have ht := there_new w2 (cb zH) 30
        have hu0 := (Up.refl w2).alloc (Obj.cells (cb zH).toArray 30)
        generalize w2.alloc (Obj.cells (cb zH).toArray 30) = W4 at *
        refine wpList_store_mid rfl _ _ _ rfl w2.heap.size 0 (cb y).toArray rfl rfl (by rw [show (cb y).toArray.size = 32 from hcl]; exact ht) (by rw [show (cb y).toArray.size = 32 from hcl]; exact infoHs) (all_oneCell_toArray (cb_one _)) ?_
        simp only [Act.put]
        have HU5 := Hid.of (HU2.out.trans (up_setCells (W := w2) (Nat.le_refl _) (cb y).toArray.toList 0 hu0))
        have HRX := Hid.of (show (World.setCells W4 w2.heap.size 0 (cb y).toArray.toList).rangeAt w2.heap.size 0 (cb y) from World.rangeAt_setCells_same W4 w2.heap.size 0 (cb y) (by rw [hcl]; exact ht))
        generalize World.setCells W4 w2.heap.size 0 (cb y).toArray.toList = W5 at *
        generalize w2.heap.size = hb at *
        clear ht hu0 HU2
        have HUU := Hid.of (HK.out.2.2.2.2.trans HU5.out)
        cases hI : hsI a with
        | none =>
          have HNO := Hid.of (cp_no HK.out.1 HK.out.2.1 (fun ks m k32 _ e => by
            obtain ⟨k, ks', rfl, hk⟩ := cp_first HR.out.2.1 HR.out.2.2 (HR.out.1.symm.trans e)
            rw [hk, hsI_b64 (k32 k List.mem_cons_self)] at hI
            cases hI))
          clear hI hrl
          dsimp only [Option.isSome]
          go_wp2
          go_ret3
          exact ⟨HUU.out, .inr ⟨HNO.out, rfl⟩⟩
        | some x =>
          obtain rfl : y = x := by have h1 := HYV.out.1; unfold hsV at h1; rw [hI] at h1; exact h1.symm
          have HB := Hid.of (hsI_some hI).1
          clear hI
          dsimp only [Option.isSome]
          by_cases h64 : n = 64
          · have HNO := Hid.of (cp_no HK.out.1 HK.out.2.1 (fun ks m _ kn e => by
              obtain ⟨k, ks', rfl, hk⟩ := cp_first HR.out.2.1 HR.out.2.2 (HR.out.1.symm.trans e)
              rw [List.length_append, HN.out.1] at kn
              simp only [List.length_cons] at kn
              omega))
            have h64z : (n : Int) = 64 := by omega
            clear hrl
            go_wp2
            go_ret3
            exact ⟨HUU.out, .inr ⟨HNO.out, rfl⟩⟩
          · have h64z : ¬ (n : Int) = 64 := by omega
            go_wp2_with (with_reducible show wpList _ _ _ ({ dst := _, op := Op.load 30 _, type := _, pos := _, after := _, guard := _ } :: _) _ _; refine Shut.out ?_)
            show wpList _ _ _ _ _ _
            refine wpList_load_mid rfl _ _ rfl hb 0 rfl (cb y) _ HRX.out Tryd.underlying30 rfl (by rw [hcl]; exact infoHs) ?_
            simp only [Act.put, List.setIfInBounds_toArray, List.set_cons_zero, List.set_cons_succ]
            refine wpList_buildHs rfl _ rfl hy32 (by simp only [List.map_toArray, List.map_cons, List.map_nil]; rfl) ?_
            simp only [Act.put, List.setIfInBounds_toArray, List.set_cons_zero, List.set_cons_succ]
            have HU6 := Hid.of ((Up.refl W5).alloc (.cells (cb y).toArray 30))
            have HA6 := Hid.of (fun (j : Nat) (u : Value) (hu : (cb y)[j]? = some u) => show (W5.alloc (.cells (cb y).toArray 30)).cell? ((⟨W5.heap.size, 0, none⟩ : Addr).add j) = some u by
              rw [add_plain, World.cell?_alloc_at _ _ _ _ rfl, Nat.zero_add]
              simpa using hu)
            have hO := (HK.out.2.2.2.1.up HU5.out).up HU6.out
            unfold HO at hO
            rw [HN.out.1] at hO
            refine wpList_append_own _ rfl _ _ 31 rfl w.heap.size 30 ih (.agg (cb zH).toArray) 32 32 Tryd.underlying31 iha ihb ihc ihd rfl (by decide) (.slice pa n pc) n (hs.flatMap cb) rfl hO ⟨W5.heap.size, 0, none⟩ 1 1 (cb y) rfl (by rw [hcl]) (fun j u hu => HA6.out j u hu) (fun u hu => cb_one y u hu) (by simp only [maxLen]; omega) (by omega) (HUU.out.trans HU6.out).size ?_
            intro v7 w7 o7 g7 _
            simp only [Act.put, List.setIfInBounds_toArray, List.set_cons_zero, List.set_cons_succ]
            have HNX := Hid.of (show l = (hs ++ [y]).flatMap hln ++ b ∧ (∀ h ∈ hs ++ [y], h.length = 32) ∧ (hs ++ [y]).length ≤ 64 ∧ HO w7 w.heap.size v7 (hs ++ [y]) ∧ Up w w7 from ⟨by
              rw [HK.out.1, HR.out.1, ← HB.out]
              simp [hln], fun h hh => by
              rcases List.mem_append.1 hh with h1 | h1
              · exact HK.out.2.1 h h1
              · rw [List.mem_singleton.1 h1]; exact hy32, by rw [List.length_append, HN.out.1]; simp only [List.length_cons, List.length_nil]; omega, by
              unfold HO
              rw [flatB_snoc, List.length_append, HN.out.1]
              exact o7, (HUU.out.trans HU6.out).by' g7 (fun g hg => (World.ownsRow.lt hO g hg).1)⟩)
            have hml : b.length < r.length := by rw [HR.out.1, List.length_append, List.length_cons]; omega
            clear o7 g7 hO HU6 HA6 HU5 HUU HRX HB HYV
            go_wp2
            go_roundw
            case rel => exact ⟨hs ++ [y], b, rfl, HNX⟩
            case measure => simp only [slen, Go.Lib.size_eq]; exact hml
    · rw [hcut]
      have HNO := Hid.of (cp_no HK.out.1 HK.out.2.1 (fun ks m _ _ e => hnr (by rw [e]; simp)))
      have HUU := Hid.of (HK.out.2.2.2.2.trans HU1.out)
      clear hcut hnr hrl
      dsimp only
      go_wp2
      go_ret3
      exact ⟨HUU.out, .inr ⟨HNO.out, rfl⟩⟩
end Go.Proofs.YtaobnnlcfefodaaDoor
