import Derived.Test.YtdgpnppnjkpfoaaWa
namespace Go.Proofs.Ytdgpnppnjkpfoaa
open Go.RowKit TextNum
/-- texts that are given -/
structure StL (w : World) (a : Option Addr) (ss : List ByteArray) (c : Nat) : Prop where
  cap : ss.length ≤ c
  cells : ∀ i (h : i < ss.length), ∃ b off, a = some ⟨b, off, none⟩ ∧ w.cell? ⟨b, off + i, none⟩ = some (.string ss[i])
theorem StL.up {w w' : World} {a : Option Addr} {ss : List ByteArray} {c : Nat} (h : StL w a ss c) (u : Up w w') : StL w' a ss c :=
  ⟨h.cap, fun i hi => by obtain ⟨b, off, e, k⟩ := h.cells i hi; exact ⟨b, off, e, u.cell k⟩⟩
def vat (ss : List ByteArray) (i : Nat) : ByteArray := ss.getD i ⟨#[]⟩
set_option maxRecDepth 100000 in
theorem value_walk (a : Option Addr) (ss : List ByteArray) (c i : Nat) (w : World) (h : StL w a ss c) : Calls Try.prog 4 #[.slice a ss.length c, .int .i64 (i : Int)] w fun e w' => e = .returned (.string (vat ss i)) ∧ w' = w := by
  have hcap := h.cap
  by_cases hi : i < ss.length
  · obtain ⟨b, off, rfl, k⟩ := h.cells i hi
    have hz : (i : Int) < (ss.length : Int) := by omega
    have HV := Hid.of (show vat ss i = ss[i] by unfold vat; rw [List.getD_eq_getElem?_getD, List.getElem?_eq_getElem hi]; rfl)
    rw [HV.out]
    generalize ss[i] = x at *
    clear h
    go_enter Try.func4, Try.ntmps4
    go_wp2
    go_ret
    exact ⟨rfl, rfl⟩
  · have hz : ¬ (i : Int) < (ss.length : Int) := by omega
    have HV := Hid.of (show vat ss i = ⟨#[]⟩ by unfold vat; rw [List.getD_eq_getElem?_getD, List.getElem?_eq_none (by omega)]; rfl)
    rw [HV.out]
    clear h
    go_enter Try.func4, Try.ntmps4
    go_wp2
    go_ret
    exact ⟨rfl, rfl⟩
/-- one byte is appended -/
theorem wpList_app1 {w : World} {N q : Nat} {ops : Array Oper} {rest : List Oper} {o : Oper} {a : Act} {Q : Exit → Act → World → Prop} (hgd : o.guard = none) (x y : Operand)
    (ho : o.op = .call { callee := .builtin .append, args := #[x, y], argTypes := #[32, 32] }) (ax : Option Addr) (cx : Nat) (xs : List UInt8) (b : UInt8) (hx : a.eval x = .slice ax q cx) (hy : a.eval y = .slice (some ⟨w.heap.size, 0, none⟩) 1 1)
    (hR : w.ownsRow N 5 1 (.slice ax q cx) q (cb xs)) (hNw : N ≤ w.heap.size) (hql : q ≤ 1099511627776)
    (K : ∀ ax2 cx2 w', w'.ownsRow N 5 1 (.slice ax2 (q + 1) cx2) (q + 1) (cb (xs ++ [b])) → (∀ W, Up W w → W.heap.size ≤ N → Up W w') → w.grownBy w' (Value.slice ax q cx).ownBlock → wpList Try.prog ops Q rest (a.put o.dst (.slice ax2 (q + 1) cx2)) w') :
    wpList Try.prog ops Q (o :: rest) a (w.alloc (.cells #[.int .u8 (b.toNat : Int)] 5)) := by
  obtain ⟨i0, hi0, hz0, hz1, hz2⟩ := info_parts Try.infoU8
  have HUx := (Up.refl w).alloc (.cells #[.int .u8 (b.toNat : Int)] 5)
  refine wpList_append_frs hgd x y 32 ho N 5 i0 (.int .u8 0) 1 Try.underlying32 hi0 hz0 hz1 hz2 rfl _ q _ hx (ow_up hR HUx) ⟨w.heap.size, 0, none⟩ 1 1 [.int .u8 (b.toNat : Int)] hy rfl ?_ ?_ (by simp only [maxLen]; omega) (by omega) (Nat.le_trans hNw HUx.size) ?_
  · intro j u hu
    rw [Addr.add_lit]
    exact At.cell (at_new w 5 [.int .u8 (b.toNat : Int)]) (i := 0 + j) (by rw [Nat.zero_add]; exact hu)
  · intro u hu
    obtain rfl := List.mem_singleton.1 hu
    rfl
  · intro v8 w8 o8 g8 _
    obtain ⟨a4, c4, rfl⟩ := row_len o8
    refine K a4 c4 w8 (by rw [cb_snoc]; exact o8) (fun W hU hW => up_grownBy (hU.trans HUx) g8 (fun g hg => Nat.le_trans hW (World.ownsRow.lt hR g hg).1)) (up_grown HUx g8)
set_option maxRecDepth 100000 in
set_option maxHeartbeats 1000000 in
/-- the law's own lower -/
theorem lowerL_walk (s : ByteArray) (w : World) (hs : s.size ≤ 1099511627776) : Calls Try.prog 6 #[.string s] w fun e w' => e = .returned (.string ⟨(lws s.data.toList).toArray⟩) ∧ Up w w' := by
  have HS := Hid.of (show s.size = s.data.toList.length from Go.Lib.size_eq s)
  go_enter Try.func6, Try.ntmps6
  go_wp2
  go_loopw [3, 4] (fun v3 v4 wr => ∃ i : Nat, v4 = .int .i64 (i : Int) ∧ i ≤ s.size ∧ ∃ a3 c3, v3 = .slice a3 i c3 ∧ Hid (wr.ownsRow w.heap.size 5 1 (.slice a3 i c3) i (cb (lws (s.data.toList.take i))) ∧ Up w wr)) (fun _ v4 _ => s.size - (intOf v4).toNat)
  case atStart => exact ⟨0, rfl, Nat.zero_le _, none, 0, rfl, Hid.of ⟨World.ownsRow_nil _ _ _ _, Up.refl _⟩⟩
  case round =>
    obtain ⟨i, rfl, hi, a3, c3, rfl, hQ⟩ := hrel
    have HQ := Hid.of hQ.out
    clear hQ
    by_cases hil : i < s.size
    · have hilz : (i : Int) < (s.size : Int) := by omega
      have hg := sget' s i hil
      have HT := Hid.of (lws_take (l := s.data.toList) (i := i) (by rw [← HS.out]; exact hil))
      generalize s.data.toList[i]'(by rw [← HS.out]; exact hil) = x at *
      have hx := x.toNat_lt
      by_cases h1 : 65 ≤ x.toNat
      · have z1 : (65 : Int) ≤ (x.toNat : Int) := by omega
        by_cases h2 : x.toNat ≤ 90
        · have z2 : (x.toNat : Int) ≤ 90 := by omega
          have HL := Hid.of (lw_yes h1 h2)
          go_wp2_with (with_reducible show wpList _ _ _ ({ dst := _, op := Op.call { callee := Callee.builtin Builtin.append, args := _, argTypes := _ }, type := _, pos := _, after := _, guard := _ } :: _) _ _; refine Shut.out ?_)
          show wpList _ _ _ _ _ _
          rw [show (x.toNat : Int) + 32 = ((lw x).toNat : Int) by rw [HL.out]; omega]
          refine wpList_app1 (N := w.heap.size) rfl _ _ rfl a3 c3 (lws (s.data.toList.take i)) (lw x) rfl rfl HQ.out.1 HQ.out.2.size (by omega) ?_
          intro a4 c4 w4 o4 u4 _
          have HO4 := Hid.of (And.intro (show w4.ownsRow w.heap.size 5 1 (.slice a4 (i + 1) c4) (i + 1) (cb (lws (s.data.toList.take (i + 1)))) by rw [HT.out]; exact o4) (u4 w HQ.out.2 (Nat.le_refl _)))
          clear o4 u4
          simp only [Act.put, List.setIfInBounds_toArray, List.set_cons_zero, List.set_cons_succ]
          go_wp2
          go_roundw
          all_goals first
            | exact ⟨i + 1, by go_num, by omega, a4, c4, rfl, HO4⟩
            | (simp [intOf]; omega)
        · have z2 : ¬ (x.toNat : Int) ≤ 90 := by omega
          have HL := Hid.of (show lw x = x from lw_no (by omega))
          go_wp2_with (with_reducible show wpList _ _ _ ({ dst := _, op := Op.call { callee := Callee.builtin Builtin.append, args := _, argTypes := _ }, type := _, pos := _, after := _, guard := _ } :: _) _ _; refine Shut.out ?_)
          show wpList _ _ _ _ _ _
          refine wpList_app1 (N := w.heap.size) rfl _ _ rfl a3 c3 (lws (s.data.toList.take i)) x rfl rfl HQ.out.1 HQ.out.2.size (by omega) ?_
          intro a4 c4 w4 o4 u4 _
          have HO4 := Hid.of (And.intro (show w4.ownsRow w.heap.size 5 1 (.slice a4 (i + 1) c4) (i + 1) (cb (lws (s.data.toList.take (i + 1)))) by rw [HT.out]; rw [HL.out]; exact o4) (u4 w HQ.out.2 (Nat.le_refl _)))
          clear o4 u4
          simp only [Act.put, List.setIfInBounds_toArray, List.set_cons_zero, List.set_cons_succ]
          go_wp2
          go_roundw
          all_goals first
            | exact ⟨i + 1, by go_num, by omega, a4, c4, rfl, HO4⟩
            | (simp [intOf]; omega)
      · have z1 : ¬ (65 : Int) ≤ (x.toNat : Int) := by omega
        have HL := Hid.of (show lw x = x from lw_no (by omega))
        go_wp2_with (with_reducible show wpList _ _ _ ({ dst := _, op := Op.call { callee := Callee.builtin Builtin.append, args := _, argTypes := _ }, type := _, pos := _, after := _, guard := _ } :: _) _ _; refine Shut.out ?_)
        show wpList _ _ _ _ _ _
        refine wpList_app1 (N := w.heap.size) rfl _ _ rfl a3 c3 (lws (s.data.toList.take i)) x rfl rfl HQ.out.1 HQ.out.2.size (by omega) ?_
        intro a4 c4 w4 o4 u4 _
        have HO4 := Hid.of (And.intro (show w4.ownsRow w.heap.size 5 1 (.slice a4 (i + 1) c4) (i + 1) (cb (lws (s.data.toList.take (i + 1)))) by rw [HT.out]; rw [HL.out]; exact o4) (u4 w HQ.out.2 (Nat.le_refl _)))
        clear o4 u4
        simp only [Act.put, List.setIfInBounds_toArray, List.set_cons_zero, List.set_cons_succ]
        go_wp2
        go_roundw
        all_goals first
          | exact ⟨i + 1, by go_num, by omega, a4, c4, rfl, HO4⟩
          | (simp [intOf]; omega)
    · have hilz : ¬ (i : Int) < (s.size : Int) := by omega
      have HT := Hid.of (show s.data.toList.take i = s.data.toList from List.take_of_length_le (by rw [← HS.out]; omega))
      have hil2 : (lws (s.data.toList.take i)).length = i := by rw [lws_len, HT.out, ← HS.out]; omega
      have hSb : Sb wr (.slice a3 i c3) (lws (s.data.toList.take i)) := Ow.sb (B := w.heap.size) (by unfold Ow; rw [hil2]; exact HQ.out.1)
      have hcv := conv_sb2 hSb
      rw [HT.out] at hcv
      clear hSb hil2
      go_wp2
      go_ret
      exact ⟨rfl, HQ.out.2⟩
end Go.Proofs.Ytdgpnppnjkpfoaa
