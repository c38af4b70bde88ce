import Derived.Test.YtimmpobpfgdncaaGe
import Derived.Test.YtimmpobpfgdncaaGg
import Derived.Test.YtimmpobpfgdncaaGk
namespace Go.Proofs.Ytimmpobpfgdncaa
open Go.RowKit Go.Conc TextNum
theorem run_app_none {w : World} {v : Value} {B n : Nat} {xs : List Value} {ty : TypeId} {c : Nat} (h : w.ownsRow B 65 5 v n xs) : (Builtin.append_ #[66, 66] ty #[v, .slice none 0 c]).run Try.prog w = .ok v w := by
  obtain ⟨i0, hi, hz0, hz1, hz2⟩ := info_parts infoSent
  rcases h.2 with ⟨rfl, h1⟩ | ⟨g, cap, cur, rfl, _, _, hnc, _⟩
  · simp [Builtin.append_, run_underlying Try.underlying66, sizeOf, typeInfo, hi, Builtin.lenOf, Builtin.firstCells]
  · simp [Builtin.append_, run_underlying Try.underlying66, sizeOf, typeInfo, hi, Builtin.lenOf, Builtin.firstCells, hnc, storeCells]
theorem wpList_appSn {w : World} {N M : Nat} {ops : Array Oper} {rest : List Oper} {o : Oper} {a : Act} {Q : Exit → Act → World → Prop} (hgd : o.guard = none) (x y : Operand)
    (ho : o.op = .call { callee := .builtin .append, args := #[x, y], argTypes := #[66, 66] }) (v vy : Value) (xs ds : List Sn) (hx : a.eval x = v) (hy : a.eval y = vy) (hR : SO w N v xs) (hD : SO w M vy ds) (hN : N ≤ w.heap.size) (hql : xs.length + ds.length ≤ 1000)
    (K : ∀ v' w', SO w' N v' (xs ++ ds) → w.grownBy w' v.ownBlock → wpList Try.prog ops Q rest (a.put o.dst v') w') :
    wpList Try.prog ops Q (o :: rest) a w := by
  obtain ⟨i0, hi0, hz0, hz1, hz2⟩ := info_parts infoSent
  have hc := fun g hg => World.ownsRow.cells hD (g := g) hg
  obtain ⟨ay, cy, rfl, k3, k4⟩ := hD.shape
  cases ay with
  | none =>
    have := k3 rfl
    subst this
    refine wpList_plain hgd fun K2 hK => ?_
    have hr := run_app_none (ty := o.type) (c := cy) hR
    unfold Oper.wp execOp
    simp only [List.length_nil] at hy
    simp only [ho, resolve, invoke, builtin, Sem.run_bind, Sem.run_pure, Result.andThen_ok, List.map_toArray, List.map_cons, List.map_nil, hx, hy, hr]
    exact hK _ _ (K v w (by rw [List.append_nil]; exact hR) (World.grownBy.refl _ _))
  | some ad =>
    obtain ⟨g, rfl⟩ := k4 ad rfl
    refine wpList_append_own _ hgd x y 66 ho N 65 i0 (.agg #[.int .i64 0, .int .i64 0, .slice none 0 0, .int .i64 0, .int .i64 0]) 5 56 Try.underlying66 hi0 hz0 hz1 hz2 rfl (by decide) v xs.length (sns xs) hx hR ⟨g, 0, none⟩ ds.length cy (sns ds) hy (sns_len ds) (hc g rfl) (sns_one ds) (by simp only [maxLen]; omega) (by omega) hN ?_
    intro v5 w5 o5 g5 _
    refine K v5 w5 ?_ g5
    rw [SO, List.length_append, show sns (xs ++ ds) = sns xs ++ sns ds by simp [sns]]
    exact o5
theorem apart_V (q0 : Sn) (ss : List Sn) (h0 : q0.g = 0 ∧ q0.i = 1 ∧ q0.d = [1, 2, 3] ∧ q0.k = 0 ∧ q0.n = 0) (h : ∀ q ∈ ss, q.n < 40) : ∃ v, Vw (([q0] ++ ss).foldl (snA true true) (A0 true true ([q0] ++ ss))) v ∧ Vw (([q0] ++ ss).foldl (snA false true) (A0 false true ([q0] ++ ss))) v ∧ Dl 50 v ∧ cnt v ≤ 2 * ([q0] ++ ss).length ∧ v.now = gsum ([q0] ++ ss) ∧ v.q.head? = some [1, 2, 3] := by
  obtain ⟨e1, e2, e3, e4, e5⟩ := h0
  have hd0 : Dl 50 ⟨0, [], []⟩ := fun p hp => by cases hp
  have hall : ∀ q ∈ [q0] ++ ss, q.n < 40 := fun q hq => by
    rcases List.mem_append.1 hq with hq | hq
    · obtain rfl := List.mem_singleton.1 hq
      omega
    · exact h q hq
  have hv : ∀ x, Vw (A0 x true ([q0] ++ ss)) ⟨0, [], []⟩ := fun x => ⟨rfl, rfl, rfl⟩
  obtain ⟨h1, h2, h3, _⟩ := fold_V ([q0] ++ ss) hall hd0
  refine ⟨([q0] ++ ss).foldl snV ⟨0, [], []⟩, Vw.fold _ (hv true) rfl, Vw.fold _ (hv false) rfl, h2, Nat.le_trans h1 (by simp [cnt]), by rw [h3]; simp, ?_⟩
  have hs : snV ⟨0, [], []⟩ q0 = ⟨0, [[1, 2, 3]], []⟩ := by
    unfold snV
    rw [e1, e2, e3, e4, e5, if_pos rfl]
    rfl
  rw [List.foldl_append, List.foldl_cons, List.foldl_nil, hs]
  exact (fold_V ss h (v := ⟨0, [[1, 2, 3]], []⟩) (fun p hp => by cases hp)).2.2.2 _ rfl
theorem sb_len {w : World} {v : Value} {d : List UInt8} (h : Sb w v d) : d.length ≤ 9223372036854775807 := by
  obtain ⟨a, c, _, h1, h2, _⟩ := h
  simp only [maxLen] at h2
  omega
/-- what is known of the two nets before the wait number j -/
structure AP (w wr : World) (nb mb N j : Nat) (S T : NS) (A B : AN) (v : Vs) : Prop where
  s : LJ w wr S A 25
  t : LJ w wr T B 25
  nb : S.nb = nb
  mb : T.nb = mb
  dj : ∀ x, own S x → ¬ own T x
  va : Vw A v
  vb : Vw B v
  dl : Dl 50 v
  cn : cnt v ≤ 2 * N - j
  nw : v.now ≤ 600 + 50 * j
  hd : j = 0 → v.q.head? = some [1, 2, 3]
set_option maxRecDepth 100000 in
set_option maxHeartbeats 4000000 in
theorem LaneApart_walk (w : World) (a : Option Addr) (c : Nat) (l : List Rw) (h : RwL w a l) : Calls Try.prog 9 #[.slice a l.length c] w fun e w' => e = .returned (.bool true) ∧ Up w w' := by
  have HR := Hid.of h
  have HU := Hid.of (((Up.refl w).alloc (.cells #[.int .u8 1, .int .u8 2, .int .u8 3] 5)).alloc (.cells #[.int .i64 0, .int .i64 1, .slice (some ⟨w.heap.size, 0, none⟩) 3 3, .int .i64 0, .int .i64 0] 65))
  have HB := Hid.of (show Ow ((w.alloc (.cells #[.int .u8 1, .int .u8 2, .int .u8 3] 5)).alloc (.cells #[.int .i64 0, .int .i64 1, .slice (some ⟨w.heap.size, 0, none⟩) 3 3, .int .i64 0, .int .i64 0] 65)) w.heap.size (.slice (some ⟨w.heap.size, 0, none⟩) 3 3) [1, 2, 3] from ow_up (show Ow (w.alloc (.cells #[.int .u8 1, .int .u8 2, .int .u8 3] 5)) w.heap.size (.slice (some ⟨w.heap.size, 0, none⟩) 3 3) [1, 2, 3] from ⟨rfl, .inr ⟨w.heap.size, 3, _, rfl, Nat.le_refl _, heap_alloc_new w _, Nat.le_refl _, by simp [maxLen], rfl, rfl⟩⟩) ((Up.refl _).alloc _))
  have hsz : (w.alloc (.cells #[.int .u8 1, .int .u8 2, .int .u8 3] 5)).heap.size = w.heap.size + 1 := by show (w.heap.push _).size = _; rw [Array.size_push]
  have HO := Hid.of (show SO ((w.alloc (.cells #[.int .u8 1, .int .u8 2, .int .u8 3] 5)).alloc (.cells #[.int .i64 0, .int .i64 1, .slice (some ⟨w.heap.size, 0, none⟩) 3 3, .int .i64 0, .int .i64 0] 65)) w.heap.size (.slice (some ⟨w.heap.size + 1, 0, none⟩) 1 1) [⟨0, 1, some ⟨w.heap.size, 0, none⟩, 3, [1, 2, 3], 0, 0⟩] from by
    rw [← hsz]
    exact ⟨rfl, .inr ⟨(w.alloc (.cells #[.int .u8 1, .int .u8 2, .int .u8 3] 5)).heap.size, 1, _, rfl, by rw [hsz]; omega, heap_alloc_new _ _, Nat.le_refl _, by simp [maxLen], rfl, rfl⟩⟩)
  clear h
  go_enter Try.func9, Try.ntmps9
  go_wp2_with fail
  clear hsz
  generalize (w.alloc (.cells #[.int .u8 1, .int .u8 2, .int .u8 3] 5)).alloc (.cells #[.int .i64 0, .int .i64 1, .slice (some ⟨w.heap.size, 0, none⟩) 3 3, .int .i64 0, .int .i64 0] 65) = W2 at *
  have hSc := script_walk W2 w a c l (HR.out.up HU.out) HR.out.ok
  refine hSc.mono ?_
  rintro e w3 ⟨vs, rfl, ss, hso, hle, htm, u3⟩
  have HSO := Hid.of hso
  have HTM := Hid.of htm
  have HU3 := Hid.of u3
  clear hSc hso htm u3
  generalize hb0 : w.heap.size = b0 at *
  dsimp only
  go_wp2_with (with_reducible show wpList _ _ _ ({ dst := _, op := Op.call { callee := Callee.builtin Builtin.append, args := _, argTypes := _ }, type := _, pos := _, after := _, guard := _ } :: _) _ _; refine Shut.out ?_)
  show wpList _ _ _ _ _ _
  refine wpList_appSn rfl _ _ rfl (.slice (some ⟨b0 + 1, 0, none⟩) 1 1) vs [⟨0, 1, some ⟨b0, 0, none⟩, 3, [1, 2, 3], 0, 0⟩] ss rfl rfl (ow_up HO.out HU3.out) HSO.out (by rw [← hb0]; exact (HU.out.trans HU3.out).size) (by simp only [List.length_singleton]; omega) ?_
  intro v4 w4 o4 g4
  have HUp4 := Hid.of ((HU.out.trans HU3.out).by g4 (fun g hg => by have := Option.some.inj hg; dsimp only at this; omega))
  have HB4 := Hid.of (World.ownsRow.kept (ow_up HB.out HU3.out) g4 (.inr (fun e => by have := Option.some.inj e; dsimp only at this; omega)))
  have hav := apart_V ⟨0, 1, some ⟨b0, 0, none⟩, 3, [1, 2, 3], 0, 0⟩ ss ⟨rfl, rfl, rfl, rfl, rfl⟩ (fun q hq => (HTM.out q hq).2.2)
  obtain ⟨a4, c4, rfl, _⟩ := o4.shape
  have HSL := Hid.of (SO.read o4 (Up.refl w4) (fun q hq => by
    rcases List.mem_append.1 hq with hq | hq
    · obtain rfl := List.mem_singleton.1 hq
      exact ⟨Ow.sb HB4.out, by simp, by show 1 < 2; omega, by show 0 < 20; omega, rfl⟩
    · exact (HTM.out q hq).1.up HUp4.out))
  have hN : ([(⟨0, 1, some ⟨b0, 0, none⟩, 3, [1, 2, 3], 0, 0⟩ : Sn)] ++ ss).length ≤ 25 := by rw [List.length_append, List.length_singleton]; omega
  clear o4 g4 HO HSO HTM HB HB4 HU3 HU
  generalize [(⟨0, 1, some ⟨b0, 0, none⟩, 3, [1, 2, 3], 0, 0⟩ : Sn)] ++ ss = L at *
  clear hle
  have HAV := Hid.of hav
  clear hav
  have hgs : gsum L ≤ 500 := Nat.le_trans (gsum_le (fun q hq => (HSL.out.ok q hq).g2)) (by omega)
  simp only [Act.put, List.setIfInBounds_toArray, List.set_cons_zero, List.set_cons_succ]
  go_wp2_with fail
  have hS1 := sends_walk w4 a4 c4 L true true HSL.out hN
  refine hS1.mono ?_
  rintro e w1 ⟨nb, rfl, S, hJ, hnb, _⟩
  have HJa := Hid.of hJ
  have HNBa := Hid.of (And.intro hnb trivial)
  clear hS1 hJ hnb
  dsimp only
  go_wp2_with fail
  have hS2 := sends_walk w1 a4 c4 L false true (HSL.out.up HJa.out.up) hN
  refine hS2.mono ?_
  rintro e w2 ⟨mb, rfl, T, hJ, hnb, _⟩
  have HAP := Hid.of (show ∃ S T A B v, AP w w2 nb mb L.length 0 S T A B v from by
    obtain ⟨v, v1, v2, v3, v4, v5, v6⟩ := HAV.out
    exact ⟨S, T, _, _, v, (HJa.out.up' hJ.up).base HUp4.out, hJ.base (HUp4.out.trans HJa.out.up), HNBa.out.1, hnb, fun x h1 h2 => (by have := HJa.out.ok.lt h1; have := hJ.fr x h2; omega), v1, v2, v3, v4, by omega, fun _ => v6⟩)
  clear hS2 hJ hnb HJa HNBa HSL HUp4 HAV hb0
  generalize gsum L = G at *
  generalize L.length = N at *
  dsimp only
  have hm1 : IntKind.i64.wrap (2 * (N : Int)) = 2 * (N : Int) := by rw [IntKind.wrap_i64]; omega
  have hm2 : IntKind.i64.wrap (2 * (N : Int) + 1) = 2 * (N : Int) + 1 := by rw [IntKind.wrap_i64]; omega
  go_wp2
  go_loopw [10, 11, 12, 13, 14, 15] (fun v10 _ _ _ _ _ wr => ∃ j : Nat, v10 = .int .i64 (j : Int) ∧ j ≤ 2 * N + 1 ∧ Hid (∃ S T A B v, AP w wr nb mb N j S T A B v)) (fun v10 _ _ _ _ _ _ => 2 * N + 1 - (intOf v10).toNat)
  case atStart => exact ⟨0, rfl, by omega, HAP⟩
  case round =>
    clear HAP
    obtain ⟨j, rfl, hjn, hR⟩ := hrel
    obtain ⟨S, T, A, B, v, hP⟩ := hR.out
    have HP := Hid.of hP
    clear hR hP
    by_cases hlt : j < 2 * N + 1
    · have hltz : (j : Int) < 2 * (N : Int) + 1 := by omega
      have hjw : IntKind.i64.wrap ((j : Int) + 1) = (j : Int) + 1 := by rw [IntKind.wrap_i64]; omega
      obtain ⟨ea1, ea2, ea3⟩ := Vw.aw 50 HP.out.va
      obtain ⟨eb1, eb2, eb3⟩ := Vw.aw 50 HP.out.vb
      obtain ⟨d1, d2, d3⟩ := aw_V 50 50 HP.out.dl
      have hW1 := HP.out.s.wait 1 50 HP.out.va.2.1 (by omega) (by rw [HP.out.va.1]; have := HP.out.nw; omega) (by omega)
      rw [HP.out.nb, ea1, ea2] at hW1
      have HE := Hid.of (And.intro ea3 (And.intro eb3 (And.intro d1 (And.intro d2 (d3 (Nat.le_refl _))))))
      have HEB := Hid.of (And.intro eb1 eb2)
      have HF := Hid.of (fun h0 : j = 0 => aw_first (HP.out.hd h0) 50)
      clear ea1 ea2 ea3 eb1 eb2 eb3 d1 d2 d3
      obtain ⟨r, hr⟩ : ∃ r, (awV 50 v).1 = r := ⟨_, rfl⟩
      rw [hr] at HF HEB hW1
      obtain ⟨rb, rn⟩ := r
      clear hr
      dsimp only at hW1
      go_wp2_with fail
      refine hW1.mono ?_
      rintro e u1 ⟨mx, rfl, ox, S1, h9⟩
      have hbs := HP.out.s.beside HP.out.t HP.out.dj h9
      have HJs := Hid.of (HP.out.s.st h9)
      have HJt := Hid.of hbs.1
      have HDj := Hid.of hbs.2
      have HNs := Hid.of (And.intro (h9.nb.trans HP.out.nb) trivial)
      have HOX := Hid.of ox
      clear h9 hW1 hbs ox
      dsimp only
      have hW2 := HJt.out.wait 1 50 HP.out.vb.2.1 (by omega) (by rw [HP.out.vb.1]; have := HP.out.nw; omega) (by omega)
      rw [HP.out.mb, HEB.out.1, HEB.out.2] at hW2
      go_wp2_with fail
      refine hW2.mono ?_
      rintro e u2 ⟨my, rfl, oy, T1, h9⟩
      have hbs := HJt.out.beside HJs.out (fun x h1 h2 => HDj.out x h2 h1) h9
      have HKs := Hid.of hbs.1
      have HKt := Hid.of (HJt.out.st h9)
      have HDk := Hid.of (show ∀ x, own S1 x → ¬ own T1 x from fun x h1 h2 => hbs.2 x h2 h1)
      have HNt := Hid.of (And.intro (h9.nb.trans HP.out.mb) trivial)
      have HOX2 := Hid.of (h9.ow HJt.out.ok HOX.out)
      have HOY := Hid.of oy
      clear h9 hW2 hbs oy HJs HJt HDj HOX
      dsimp only
      go_wp2_with fail
      refine (same_any u2 mx my rb rb (Ow.sb HOX2.out) (Ow.sb HOY.out) (sb_len (Ow.sb HOX2.out))).mono ?_
      rintro e u3 ⟨rfl, ul⟩
      have HX := Hid.of (HKs.out.up' ul)
      have HY := Hid.of (HKt.out.up' ul)
      have hNx := Now_walk u3 S1 HX.out.ok
      have hNy := Now_walk u3 T1 HY.out.ok
      rw [HNs.out.1, HX.out.now, HE.out.1.1] at hNx
      rw [HNt.out.1, HY.out.now, HE.out.2.1.1] at hNy
      obtain ⟨xa, xc, rfl, _⟩ := Ow.sb HOX2.out
      clear ul HKs HKt HOX2 HOY
      dsimp only
      rw [show (rb == rb) = true by simp]
      have HN := Hid.of (show ∃ S T A B v, AP w u3 nb mb N (j + 1) S T A B v from ⟨S1, T1, _, _, _, HX.out, HY.out, HNs.out.1, HNt.out.1, HDk.out, HE.out.1, HE.out.2.1, HE.out.2.2.1, by have := HE.out.2.2.2.2; have := HP.out.cn; omega, by have := HE.out.2.2.2.1; have := HP.out.nw; omega, fun e => by omega⟩)
      clear HX HY HE HDk HNs HNt HEB HP
      generalize (awV 50 v).2.now = t1 at *
      by_cases hj0 : j = 0
      · have hf := HF.out hj0
        obtain ⟨rfl, rfl⟩ := Prod.mk.inj hf
        subst hj0
        clear hf HF
        go_wp2_with (first | (go_at_call 13; refine (num_walk _ _).mono ?_; rintro _ w9 ⟨rfl, h9⟩; obtain rfl := h9.symm; clear h9; dsimp only) | (go_at_call 16; refine hNx.mono ?_; rintro _ w9 ⟨rfl, h9⟩; obtain rfl := h9.symm; clear h9; dsimp only) | (go_at_call 16; refine hNy.mono ?_; rintro _ w9 ⟨rfl, h9⟩; obtain rfl := h9.symm; clear h9; dsimp only))
        go_roundw
        case rel => exact ⟨1, by simp, by omega, HN⟩
        case measure => simp [intOf]
      · have hjz : ¬ (j : Int) = 0 := by omega
        clear HF
        go_wp2_with (first | (go_at_call 13; refine (num_walk _ _).mono ?_; rintro _ w9 ⟨rfl, h9⟩; obtain rfl := h9.symm; clear h9; dsimp only) | (go_at_call 16; refine hNx.mono ?_; rintro _ w9 ⟨rfl, h9⟩; obtain rfl := h9.symm; clear h9; dsimp only) | (go_at_call 16; refine hNy.mono ?_; rintro _ w9 ⟨rfl, h9⟩; obtain rfl := h9.symm; clear h9; dsimp only))
        go_roundw
        case rel => exact ⟨j + 1, by simp, by omega, HN⟩
        case measure => simp [intOf]; omega
    · have hltz : ¬ (j : Int) < 2 * (N : Int) + 1 := by omega
      obtain ⟨ea1, ea2, ea3⟩ := Vw.aw 0 HP.out.va
      have hno := aw_none (v := v) (by have := HP.out.cn; omega)
      have hW1 := HP.out.s.wait 1 0 HP.out.va.2.1 (by omega) (by rw [HP.out.va.1]; have := HP.out.nw; omega) (by omega)
      rw [HP.out.nb, ea1, ea2, hno] at hW1
      clear ea1 ea2 ea3 hno
      dsimp only at hW1
      go_wp2_with fail
      refine hW1.mono ?_
      rintro e u1 ⟨mx, rfl, ox, S1, h9⟩
      have HJs := Hid.of (HP.out.s.st h9)
      clear h9 hW1 ox
      dsimp only
      go_wp2_with (go_at_call 13; refine (num_walk _ _).mono ?_; rintro _ w9 ⟨rfl, h9⟩; obtain rfl := h9.symm; clear h9; dsimp only)
      go_ret
      exact ⟨by simp, HJs.out.up⟩
end Go.Proofs.Ytimmpobpfgdncaa
