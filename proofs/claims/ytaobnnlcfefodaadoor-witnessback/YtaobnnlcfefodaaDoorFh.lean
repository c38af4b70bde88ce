import Derived.Test.YtaobnnlcfefodaaDoorFg
import Derived.Test.YtaobnnlcfefodaaDoorFf
import Derived.Test.YtaobnnlcfefodaaDoorLy
namespace Go.Proofs.YtaobnnlcfefodaaDoor
open Go.RowKit TextNum
/-- a list of signatures of one's own, each one's bytes too -/
def OwnL (w : World) (B : Nat) (v : Value) (qs : List (Sg × Option Addr × Nat)) : Prop := OwnG w B 76 v qs ∧ (∀ q, q ∈ qs → OwnN w B (qv q) q.1.bytes) ∧ qs.Pairwise (fun a b => ∀ k, (qv a).ownBlock = some k → (qv b).ownBlock ≠ some k)
theorem OwnN.base {w : World} {B B' : Nat} {v : Value} {l : List UInt8} (h : OwnN w B v l) (hB : B' ≤ B) : OwnN w B' v l := by
  obtain ⟨g, off, cap, cur, fr, e, hb, r⟩ := h
  exact ⟨g, off, cap, cur, fr, e, Nat.le_trans hB hb, r⟩
theorem OwnG.base {w : World} {B B' : Nat} {e : TypeId} {v : Value} {qs : List (Sg × Option Addr × Nat)} (h : OwnG w B e v qs) (hB : B' ≤ B) : OwnG w B' e v qs := by
  refine ⟨⟨h.1.1, ?_⟩, h.2⟩
  rcases h.1.2 with h | ⟨g, cap, cur, e, hb, r⟩
  · exact .inl h
  · exact .inr ⟨g, cap, cur, e, Nat.le_trans hB hb, r⟩
theorem OwnL.base {w : World} {B B' : Nat} {v : Value} {qs : List (Sg × Option Addr × Nat)} (h : OwnL w B v qs) (hB : B' ≤ B) : OwnL w B' v qs := ⟨h.1.base hB, fun q hq => (h.2.1 q hq).base hB, h.2.2⟩
theorem OwnL.up {w w' : World} {B : Nat} {v : Value} {qs : List (Sg × Option Addr × Nat)} (h : OwnL w B v qs) (u : Up w w') : OwnL w' B v qs := ⟨h.1.up u, fun q hq => (h.2.1 q hq).up u, h.2.2⟩
theorem ownL_nil (w : World) (B : Nat) : OwnL w B (.slice none 0 0) [] := ⟨⟨World.ownsRow_nil w B 76 3, by simp⟩, by simp, List.Pairwise.nil⟩
/-- what readSigLines answers -/
def RL (l : List UInt8) (w : World) (e : Ending) (w' : World) : Prop :=
  (e = .returned (.tuple #[.slice none 0 0, .bool false]) ∧ (¬ ∃ ss, Tl l ss) ∧ Up w w') ∨ ∃ v qs, e = .returned (.tuple #[v, .bool true]) ∧ Tl l (qs.map (·.1)) ∧ OwnL w' w.heap.size v qs ∧ Up w w'
theorem map_some7 {ls : List (List UInt8)} {ss : List Sg} (h : rdL ls ss) : ∀ l, l ∈ ls → rdS l ≠ none := by
  intro l hl e
  have : rdS l ∈ ls.map rdS := List.mem_map.2 ⟨l, hl, rfl⟩
  rw [h, e] at this
  simp at this
theorem linesOf_le (l x : List UInt8) (h : x ∈ linesOf l) (h0 : lnE l = 0) : x.length ≤ 1048576 := by
  have hj : joinL (linesOf l) = l ∧ l.length ≤ 1048576 := by
    unfold lnE at h0
    split at h0
    · cases h0
    · rename_i hl
      split at h0
      · exact ⟨join_lines _ (by assumption), by omega⟩
      · cases h0
  have : ∀ (xs : List (List UInt8)), x ∈ xs → x.length ≤ (joinL xs).length := by
    intro xs
    induction xs with
    | nil => intro h; cases h
    | cons y r ih =>
      intro h
      rw [joinL_cons, List.length_append, List.length_cons]
      rcases List.mem_cons.1 h with rfl | h
      · omega
      · have := ih h; omega
  have := this _ h
  rw [hj.1] at this
  omega
set_option maxRecDepth 100000 in
set_option maxHeartbeats 2000000 in
theorem readSigLines_walk (s : ByteArray) (w : World) (hT : TabL w) (hW : Go.Lib.WhiteTab 5 w) :
    Calls Tryd.prog 24 #[.string s] w (RL s.data.toList w) := by
  have HT := Hid.of hT
  have HW := Hid.of hW
  clear hT hW
  go_enter Tryd.func24, Tryd.ntmps24
  go_wp2_with fail
  refine (Lines_walk s w).mono ?_
  rintro e w1 ⟨v1, rfl, hv1, hv2, u1⟩
  generalize s.data.toList = l at *
  have H1 := Hid.of u1
  clear u1
  dsimp only
  by_cases h0 : lnE l = 0
  rotate_left
  · have HN := Hid.of (show ¬ ∃ ss, Tl l ss from fun ⟨ss, h⟩ => h0 h.1)
    obtain rfl := hv1 h0
    have h0' : (lnE l == 0) = false := by simpa using h0
    clear hv1 hv2
    generalize lnE l = er at *
    go_wp2
    go_ret2
    exact .inl ⟨rfl, HN.out, H1.out⟩
  have hO := hv2 h0
  clear hv1 hv2
  rw [h0]
  have HLL := Hid.of (fun x h => linesOf_le l x h h0)
  have HTl := Hid.of (show ∀ ss, Tl l ss ↔ linesOf l ≠ [] ∧ (linesOf l).length ≤ 16 ∧ rdL (linesOf l) ss from fun ss => ⟨fun h => h.2, fun h => ⟨h0, h⟩⟩)
  clear h0
  generalize linesOf l = ls at *
  obtain ⟨n, hn⟩ : ∃ n, ls.length = n := ⟨_, rfl⟩
  by_cases hn0 : n = 0
  · have hls : ls = [] := List.length_eq_zero_iff.1 (by omega)
    have HN := Hid.of (show ¬ ∃ ss, Tl l ss from fun ⟨ss, h⟩ => ((HTl.out ss).1 h).1 hls)
    obtain ⟨va, vc, rfl⟩ : ∃ va vc, v1 = .slice va 0 vc := by
      rcases hO.2 with ⟨rfl, _⟩ | ⟨g, cap, cur, rfl, _⟩
      · exact ⟨_, _, rfl⟩
      · rw [hn, hn0]; exact ⟨_, _, rfl⟩
    clear hO
    go_wp2
    go_ret2
    exact .inl ⟨rfl, HN.out, H1.out⟩
  obtain ⟨g, c, rfl, hgb, hcs⟩ := hO.cell (by rintro rfl; exact hn0 hn.symm)
  rw [hn]
  have HC := Hid.of hcs
  clear hO hcs
  have hn0' : ((n : Int) == 0) = false := by simpa using hn0
  by_cases h16 : 16 < n
  · have h16' : (16 : Int) < (n : Int) := by omega
    have HN := Hid.of (show ¬ ∃ ss, Tl l ss from fun ⟨ss, h⟩ => by have := ((HTl.out ss).1 h).2.1; omega)
    go_wp2
    go_ret2
    exact .inl ⟨rfl, HN.out, H1.out⟩
  have h16' : ¬ (16 : Int) < (n : Int) := by omega
  go_wp2_with (with_reducible show wpList _ _ _ ({ dst := _, op := Op.makeSlice 47 _ _, type := _, pos := _, after := _, guard := _ } :: _) _ _; refine Shut.out ?_)
  show wpList _ _ _ _ _ _
  refine wpList_mkG rfl _ _ rfl _ _ _ n rfl rfl rfl (by omega) ?_
  intro w2 hO2 u2
  simp only [Act.put, List.setIfInBounds_toArray, List.set_cons_zero, List.set_cons_succ]
  have H2 := Hid.of (And.intro hO2 u2)
  clear hO2 u2
  go_wp2
  go_loopw [6, 33] (fun v6 v33 wr => ∃ i : Nat, v33 = .int .i64 (i : Int) ∧ i ≤ n ∧ Hid (∃ qs, OwnL wr w1.heap.size v6 qs ∧ (ls.take i).map rdS = (qs.map (·.1)).map some ∧ qs.length = i ∧ Up w1 wr)) (fun _ v33 _ => n - (intOf v33).toNat)
  case atStart => exact ⟨0, rfl, by omega, [], ⟨H2.out.1, by simp, List.Pairwise.nil⟩, by simp, rfl, H2.out.2⟩
  case round =>
    obtain ⟨i, rfl, hi, hI⟩ := hrel
    obtain ⟨qs, hI1, hI2, hI3, hI4⟩ := hI.out
    have HI := Hid.of (And.intro hI1 (And.intro hI2 (And.intro hI3 hI4)))
    clear hI hI1 hI2 hI3 hI4
    by_cases hlt : i < n
    · have hlt' : (i : Int) < (n : Int) := by omega
      have hltS : i < ls.length := by omega
      have k1 := HI.out.2.2.2.cell (HC.out i hltS)
      have HX := Hid.of (List.take_succ_eq_append_getElem hltS)
      have HM := Hid.of (List.getElem_mem hltS)
      generalize ls[i] = x at *
      go_wp2_with fail
      refine (readSigLine_walk ⟨x.toArray⟩ (by rw [Go.Lib.size_eq]; exact HLL.out x HM.out) wr (HT.out.up (H1.out.trans HI.out.2.2.2)) (WhiteTab_up HW.out (H1.out.trans HI.out.2.2.2))).mono ?_
      rintro e w3 hA
      rw [show (⟨x.toArray⟩ : ByteArray).data.toList = x from rfl] at hA
      rcases hA with ⟨hr, rfl, u3⟩ | ⟨y, a3, c3, hr, rfl, hs3, hb3, u3, hn3⟩
      · have HN := Hid.of (show (¬ ∃ ss, Tl l ss) ∧ Up w w3 from ⟨fun ⟨ss, h⟩ => map_some7 ((HTl.out ss).1 h).2.2 x HM.out hr, (H1.out.trans HI.out.2.2.2).trans u3⟩)
        clear u3 hr k1
        dsimp only
        go_wp2
        go_ret2
        exact .inl ⟨rfl, HN.out.1, HN.out.2.alloc _⟩
      · have H3 := Hid.of (And.intro hr (And.intro hs3 (And.intro hb3 u3)))
        have HN3 := Hid.of hn3
        clear hr hs3 hb3 u3 k1 hn3
        obtain ⟨nb, hnb⟩ : ∃ nb, y.bytes.length = nb := ⟨_, rfl⟩
        rw [hnb]
        dsimp only
        go_wp2_with (with_reducible show wpList _ _ _ ({ dst := _, op := Op.call { callee := Callee.builtin Builtin.append, args := _, argTypes := _ }, type := _, pos := _, after := _, guard := _ } :: _) _ _; refine Shut.out ?_)
        show wpList _ _ _ _ _ _
        subst hnb
        have UU := Hid.of (((Up.refl w3).alloc (.cells #[.string y.name, .int .u32 (y.hash : Int), .slice a3 y.bytes.length c3] 76)).alloc (.cells #[.string y.name, .int .u32 (y.hash : Int), .slice a3 y.bytes.length c3] 76))
        refine wpList_appG2 sgT1 rfl _ _ rfl w1.heap.size _ qs (y, a3, c3) rfl (by exact (HI.out.1.1.up H3.out.2.2.2).up UU.out) ⟨w3.heap.size + 1, 0, none⟩ 1 rfl ?_ (by exact H3.out.2.1.up UU.out) ?_ (by have := HI.out.2.2.1; omega) (Nat.le_trans (HI.out.2.2.2.trans H3.out.2.2.2).size UU.out.size) ?_
        · intro j u hj
          have := cells_new (w3.alloc (.cells #[.string y.name, .int .u32 (y.hash : Int), .slice a3 y.bytes.length c3] 76)) 76 (qc (y, a3, c3)) j u hj
          rw [show (w3.alloc (.cells #[.string y.name, .int .u32 (y.hash : Int), .slice a3 y.bytes.length c3] 76)).heap.size = w3.heap.size + 1 by simp] at this
          exact this
        · intro b hb
          have h1 := H3.out.2.2.1 b hb
          refine ⟨Nat.lt_of_lt_of_le h1.2 UU.out.size, fun h2 => ?_⟩
          have := (World.ownsRow.lt HI.out.1.1.1 b h2).2
          omega
        intro v7 w7 hO7 b7 g7
        simp only [Act.put, List.setIfInBounds_toArray, List.set_cons_zero, List.set_cons_succ]
        have hOL : OwnL w7 w1.heap.size v7 (qs ++ [(y, a3, c3)]) := by
          have hold := (HI.out.1.up H3.out.2.2.2).up UU.out
          refine ⟨hO7, fun q hq => ?_, ?_⟩
          · rcases List.mem_append.1 hq with hq | hq
            · exact (hold.2.1 q hq).by g7 (fun r hr hb => ((hold.1.2 q hq).2 r hb).2 hr)
            · obtain rfl := List.mem_singleton.1 hq
              refine ((HN3.out.up UU.out).base HI.out.2.2.2.size).by g7 (fun r hr hb => ?_)
              have h1 := (H3.out.2.2.1 r hb).1
              have h2 := (World.ownsRow.lt HI.out.1.1.1 r hr).2
              omega
          · rw [List.pairwise_append]
            refine ⟨hold.2.2, List.pairwise_singleton _ _, fun q hq q' hq' k hk hk' => ?_⟩
            obtain rfl := List.mem_singleton.1 hq'
            have h1 := (H3.out.2.2.1 k hk').1
            have h2 := ((HI.out.1.1.2 q hq).2 k hk).1
            omega
        have HN := Hid.of (show ∃ qs, OwnL w7 w1.heap.size v7 qs ∧ (ls.take (i + 1)).map rdS = (qs.map (·.1)).map some ∧ qs.length = i + 1 ∧ Up w1 w7 from ⟨qs ++ [(y, a3, c3)], hOL, by
          rw [HX.out, List.map_append, HI.out.2.1, List.map_append, List.map_append]
          simp [H3.out.1], by rw [List.length_append, HI.out.2.2.1]; rfl, ((HI.out.2.2.2.trans H3.out.2.2.2).trans UU.out).step (Nat.le_refl _) b7⟩)
        clear hO7 b7 g7 hOL UU H3 HX HN3
        generalize y.bytes.length = nb
        go_wp2
        go_roundw
        case rel => exact ⟨i + 1, by go_num, by omega, HN⟩
        case measure => simp [intOf]; omega
    · have hlt' : ¬ (i : Int) < (n : Int) := by omega
      have hin : i = ls.length := by omega
      go_wp2
      go_ret2
      refine .inr ⟨_, qs, rfl, (HTl.out (qs.map (·.1))).2 ⟨fun e => hn0 (by rw [← hn, e]; rfl), by omega, ?_⟩, by exact HI.out.1.base H1.out.size, H1.out.trans HI.out.2.2.2⟩
      have := HI.out.2.1
      rwa [hin, List.take_length] at this
end Go.Proofs.YtaobnnlcfefodaaDoor
