import Derived.Test.YtaphjbcnnkoffaaGreatDoorTa
namespace Go.Proofs.YtaphjbcnnkoffaaGreatDoor
open Go.RowKit TextNum

/-- 256 words as cells -/
def nl (F : Nat → Nat) : List Value := (List.range 256).map fun i => .int .u32 (F i : Int)
theorem nl_length (F : Nat → Nat) : (nl F).length = 256 := by simp [nl]
theorem nl_get (F : Nat → Nat) {i : Nat} (h : i < 256) : (nl F)[i]? = some (.int .u32 (F i : Int)) := by simp [nl, h]
theorem nl_one (F : Nat → Nat) : ∀ v ∈ nl F, v.oneCell' = true := by
  intro v hv
  simp only [nl, List.mem_map] at hv
  obtain ⟨i, _, rfl⟩ := hv
  rfl
def nV (F : Nat → Nat) : Value := .agg (nl F).toArray
/-- the number of a letter -/
def ln (c : Nat) : Nat := (pl LT (UInt8.ofNat c)).getD 64
theorem ln_lt (c : Nat) : ln c ≤ 64 := by
  unfold ln
  cases h : pl LT (UInt8.ofNat c) with
  | none => decide
  | some i => have := (pl_lt' h).2; simp; omega
set_option maxRecDepth 100000 in
theorem infoA : (Tryz.prog.info? 172).map (·.size) = some 256 := by kernel_rfl
set_option maxRecDepth 100000 in
theorem zeroA : Tryz.zeroCells172 = (nl fun _ => 0).toArray := by kernel_rfl

structure KU (w0 : World) (F : Nat → Nat) (wr : World) : Prop where
  lo : ∀ j, j < 256 → wr.cell? ⟨w0.heap.size + 1, j, none⟩ = some (.int .u32 (F j : Int))
  fr : ∀ j, wr.frozen? ⟨w0.heap.size + 1, j, none⟩ = false
  tr : wr.there w0.heap.size 0 256
  up : Up w0 wr
  sz : w0.heap.size + 2 ≤ wr.heap.size
theorem KU.range {w0 wr : World} {F : Nat → Nat} (h : KU w0 F wr) : wr.rangeAt (w0.heap.size + 1) 0 (nl F) := by
  intro j v hv
  have hj : j < 256 := by have := (List.getElem?_eq_some_iff.1 hv).1; rwa [nl_length] at this
  rw [nl_get F hj] at hv
  injection hv with hv
  subst hv
  rw [Nat.zero_add]; exact h.lo j hj
theorem there_alloc_new (w : World) (cs : List Value) (t : TypeId) : (w.alloc (.cells cs.toArray t)).there w.heap.size 0 cs.length := by
  intro j hj
  have e : (w.alloc (.cells cs.toArray t)).heap[w.heap.size]? = some (.cells cs.toArray t) := by
    show (w.heap.push _)[w.heap.size]? = _
    simp
  constructor
  · simp only [World.cell?, e]
    simp [hj]
  · simp only [World.frozen?, e]
    simp
theorem KU.start (w0 : World) : KU w0 (fun _ => 0) ((w0.alloc (.cells (nl fun _ => 0).toArray 172)).alloc (.cells (nl fun _ => 0).toArray 172)) := by
  have s1 : (w0.alloc (.cells (nl fun _ => 0).toArray 172)).heap.size = w0.heap.size + 1 := by simp
  have e : ((w0.alloc (.cells (nl fun _ => 0).toArray 172)).alloc (.cells (nl fun _ => 0).toArray 172)).heap[w0.heap.size + 1]? = some (.cells (nl fun _ => 0).toArray 172) := by
    rw [← s1]; exact heap_alloc_new _ _
  refine ⟨fun j hj => ?_, fun j => ?_, ?_, (Up.refl w0 |>.alloc _).alloc _, by simp⟩
  · simp only [World.cell?, e]
    have := nl_get (fun _ => 0) hj
    simpa using this
  · simp only [World.frozen?, e]
    simp
  · have := there_alloc_new w0 (nl fun _ => 0) 172
    rw [nl_length] at this
    exact World.there_alloc this _
theorem KU.set {w0 wr : World} {F : Nat → Nat} (h : KU w0 F wr) (F' : Nat → Nat) (k : Nat) (v : Int) (hv : v = (F' k : Int)) (ho : ∀ j, j ≠ k → F' j = F j) (hk : k < 256) : KU w0 F' (wr.setCell ⟨w0.heap.size + 1, k, none⟩ (.int .u32 v)) := by
  refine ⟨fun j hj => ?_, fun j => ?_, fun j hj => ?_, Below.setCell h.up (by show w0.heap.size ≤ w0.heap.size + 1; omega) _, by simp [World.setCell]; exact h.sz⟩
  · by_cases e : j = k
    · subst e
      rw [World.cell?_setCell_same _ _ _ (h.lo j hj), hv]
    · rw [World.cell?_setCell_other _ _ _ _ (by intro h2; injection h2 with _ h3 _; exact e h3.symm), h.lo j hj, ho j e]
  · rw [World.frozen?_setCell]; exact h.fr j
  · obtain ⟨h1, h2⟩ := h.tr j hj
    refine ⟨?_, by rw [World.frozen?_setCell]; exact h2⟩
    rw [World.cell?_setCell_other _ _ _ _ (by intro h2; injection h2 with h3 _ _; omega)]; exact h1
theorem resultA {fn : Func} {q : Tmp} (h : fn.results = #[.cell q 172]) (tmps : Array Value) (w : World) (b : Nat) (F : Nat → Nat)
    (hp : tmps.getD q undef = .pointer (some ⟨b, 0, none⟩)) (hc : w.rangeAt b 0 (nl F)) : (results fn tmps).run Tryz.prog w = .ok (nV F) w := by
  have hp' : tmps[q]?.getD undef = .pointer (some ⟨b, 0, none⟩) := by simpa using hp
  simp [results, h, hp', asAddr, run_loadVar_mid w b 0 172 (nl F) _ hc Tryz.underlying172 rfl (by rw [nl_length]; exact infoA), nV]
theorem below_setCells {B : Nat} {a : World} {b : Nat} (hb : B ≤ b) : ∀ (vs : List Value) (o : Nat) {w : World}, Below B a w → Below B a (w.setCells b o vs)
  | [], _, _, h => h
  | v :: r, o, _, h => below_setCells hb r (o + 1) (Below.setCell h (by exact hb) v)

theorem lt_inj {i k : Nat} (hi : i < 64) (hk : k < 64) (h : (lt i).toNat = (lt k).toNat) : i = k := by
  have h1 := lt_pl i hi
  rw [UInt8.toNat_inj.1 h, lt_pl k hk] at h1
  exact (Option.some.inj h1).symm
theorem ln_of {F : Nat → Nat} (h1 : ∀ k, k < 64 → F (lt k).toNat = k) (h2 : ∀ j, (∀ k, k < 64 → (lt k).toNat ≠ j) → F j = 64) : ∀ j, j < 256 → F j = ln j := by
  intro j hj
  unfold ln
  cases h : pl LT (UInt8.ofNat j) with
  | none =>
    refine h2 j fun k hk e => ?_
    rw [← e, UInt8.ofNat_toNat, lt_pl k hk] at h
    cases h
  | some i =>
    obtain ⟨h3, h4⟩ := pl_lt' h
    have := h1 i h4
    rw [h3, ofNat_toNat hj] at this
    exact this

set_option maxRecDepth 100000 in
theorem letterNumbers_walk (w : World) (hT : TabL w) : Calls Tryz.prog 139 #[] w fun e w' => e = .returned (nV ln) ∧ Up w w' := by
  have HT := Hid.of hT
  clear hT
  go_enter Tryz.func139, Tryz.ntmps139
  go_wp2_with fail
  have h0 := KU.start w
  rw [← zeroA] at h0
  generalize ((w.alloc (Obj.cells Tryz.zeroCells172 172)).alloc (Obj.cells Tryz.zeroCells172 172)) = W0 at *
  have H0 := Hid.of h0
  clear h0
  go_loopw [4] (fun v4 wr => ∃ i : Nat, v4 = .int .i64 (i : Int) ∧ i ≤ 256 ∧ Hid (KU w (fun j => if j < i then 64 else 0) wr)) (fun v4 _ => 256 - (intOf v4).toNat)
  case atStart => exact ⟨0, rfl, by decide, Hid.of (by simpa using H0.out)⟩
  case round =>
    obtain ⟨i, rfl, hi, hI⟩ := hrel
    by_cases hlt : i < 256
    · have c1 := hI.out.lo i hlt
      have f1 := hI.out.fr i
      have hlt' : (i : Int) < 256 := by omega
      go_wp2
      have HS := Hid.of (hI.out.set (fun j => if j < i + 1 then 64 else 0) i 64 (by simp) (fun j hj => by show (if j < i + 1 then 64 else 0) = (if j < i then 64 else 0); split <;> split <;> omega) hlt)
      go_roundw
      case rel => exact ⟨i + 1, by go_num, by omega, HS.out⟩
      case measure => simp [intOf]; omega
    · obtain rfl : i = 256 := by omega
      have HJ := Hid.of (show ∃ F : Nat → Nat, KU w F wr ∧ (∀ j, j < 256 → F j = 64) from ⟨_, hI.out, fun j hj => by simp [hj]⟩)
      clear hI
      go_wp2
      go_loopw [10] (fun v10 wr => ∃ i : Nat, v10 = .int .i64 (i : Int) ∧ i ≤ 64 ∧ Hid (∃ F, KU w F wr ∧ (∀ k, k < i → F (lt k).toNat = k) ∧ (∀ j, j < 256 → (∀ k, k < i → (lt k).toNat ≠ j) → F j = 64))) (fun v10 _ => 64 - (intOf v10).toNat)
      case atStart =>
        obtain ⟨F, h1, h2⟩ := HJ.out
        exact ⟨0, rfl, by decide, F, h1, fun k hk => by omega, fun j hj _ => h2 j hj⟩
      case round =>
        obtain ⟨i, rfl, hi, hI⟩ := hrel
        by_cases hlt : i < 64
        · obtain ⟨F, h1, h2, h3⟩ := hI.out
          have hb : (lt i).toNat < 256 := (lt i).toNat_lt
          have c1 := h1.lo (lt i).toNat hb
          have f1 := h1.fr (lt i).toNat
          have c2 : wr.cell? ⟨8, i, none⟩ = some (.int .u8 ((lt i).toNat : Int)) := h1.up.cell (HT.out i hlt)
          have hlt' : (i : Int) < 64 := by omega
          have HS := Hid.of (And.intro (h1.set (fun j => if j = (lt i).toNat then i else F j) (lt i).toNat (i : Int) (by simp) (fun j hj => by simp [hj]) hb) (And.intro h2 h3))
          have HL := Hid.of (fun k (hk : k < i) (e : (lt k).toNat = (lt i).toNat) => Nat.lt_irrefl i (by have := lt_inj (by omega) hlt e; omega))
          clear h1 h2 h3 hI
          generalize hq : (lt i).toNat = q at *
          have HQ := Hid.of hq
          clear hq
          have hb' : (q : Int) < 256 := by omega
          go_wp2
          go_roundw
          case rel =>
            refine ⟨i + 1, by go_num, by omega, _, HS.out.1, fun k hk => ?_, fun j hj hno => ?_⟩
            · by_cases e : k = i
              · subst e; simp [HQ.out]
              · have hne : (lt k).toNat ≠ q := fun h => HL.out k (by omega) h
                simp only [if_neg hne]
                exact HS.out.2.1 k (by omega)
            · have hne : j ≠ q := fun h => hno i (by omega) (by rw [HQ.out, h])
              simp only [if_neg hne]
              exact HS.out.2.2 j hj (fun k hk => hno k (by omega))
          case measure => simp [intOf]; omega
        · obtain rfl : i = 64 := by omega
          obtain ⟨F, h1, h2, h3⟩ := hI.out
          have hF : nl F = nl ln := by
            unfold nl
            apply List.map_congr_left
            intro j hj
            rw [ln_of (F := fun j => if j < 256 then F j else 64) (fun k hk => by simp [show (lt k).toNat < 256 from (lt k).toNat_lt, h2 k hk]) (fun j hj => by by_cases h : j < 256 <;> simp [h]; exact h3 j h hj) j (by simpa using hj) |>.symm]
            simp [show j < 256 by simpa using hj]
          have HR := Hid.of (And.intro (hF ▸ h1.range) (And.intro h1.tr h1.up))
          clear h1 h2 h3 hI hF
          go_wp2_with (with_reducible show wpList _ _ _ ({ dst := _, op := Op.load 172 _, type := _, pos := _, after := _, guard := _ } :: _) _ _; refine Shut.out ?_)
          show wpList _ _ _ _ _ _
          refine wpList_load_mid rfl 172 _ rfl (w.heap.size + 1) 0 rfl (nl ln) _ HR.out.1 Tryz.underlying172 rfl (by rw [nl_length]; exact infoA) ?_
          simp only [Act.put, List.setIfInBounds_toArray, List.set_cons_zero, List.set_cons_succ]
          refine wpList_store_mid rfl 172 _ _ rfl w.heap.size 0 (nl ln).toArray rfl rfl (by rw [show (nl ln).toArray.size = 256 from by rw [List.size_toArray, nl_length]]; exact HR.out.2.1) (by rw [List.size_toArray, nl_length]; exact infoA) (all_oneCell_toArray (nl_one ln)) ?_
          simp only [Act.put]
          apply wpList_nil
          repeat go_step
          refine bodyPost_ret (v := nV ln) (resultA Tryz.results139 _ _ w.heap.size _ ?hp (World.rangeAt_setCells_same _ _ _ _ (by rw [nl_length]; exact HR.out.2.1))) ?hd ?_
          case hp => rfl
          case hd => rfl
          exact ⟨rfl, below_setCells (Nat.le_refl _) _ _ HR.out.2.2⟩
end Go.Proofs.YtaphjbcnnkoffaaGreatDoor
