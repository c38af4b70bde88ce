import Derived.Test.YtehnnlhoajdcaaaGreatDoorMf
import Derived.Lib.SliceRun
namespace Go.Proofs.YtehnnlhoajdcaaaGreatDoor
open Go.RowKit TextNum
theorem run_app_none {w : World} {v : Value} {B n : Nat} {l : List UInt8} {ty : TypeId} {c : Nat} (h : w.ownsRow B 5 1 v n (cb l)) : (Builtin.append_ #[22, 22] ty #[v, .slice none 0 c]).run Tryz.prog w = .ok v w := by
 obtain ⟨i0, hi, hz0, hz1, hz2⟩ := info_parts Tryz.infoU8
 rcases h.2 with ⟨rfl, h1⟩ | ⟨g, cap, cur, rfl, _, _, hnc, _⟩
 · simp [Builtin.append_, run_underlying Tryz.underlying22, sizeOf, typeInfo, hi, Builtin.lenOf, Builtin.firstCells]
 simp [Builtin.append_, run_underlying Tryz.underlying22, sizeOf, typeInfo, hi, Builtin.lenOf, Builtin.firstCells, hnc, storeCells]
theorem wpList_appSb {w : World} {N q : Nat} {ops : Array Oper} {rest : List Oper} {o : Oper} {a : Act} {Q : Exit → Act → World → Prop} (hgd : o.guard = none) (x y : Operand)
  (ho : o.op = .call { callee := .builtin .append, args := #[x, y], argTypes := #[22, 22] }) (ax : Option Addr) (cx : Nat) (xs : List UInt8) (vy : Value) (ds : List UInt8) (hx : a.eval x = .slice ax q cx) (hy : a.eval y = vy) (hSb : Sb w vy ds)
  (hR : w.ownsRow N 5 1 (.slice ax q cx) q (cb xs)) (hNw : N ≤ w.heap.size) (hql : q + ds.length ≤ 1099511627776)
  (K : ∀ ax2 cx2 w', w'.ownsRow N 5 1 (.slice ax2 (q + ds.length) cx2) (q + ds.length) (cb (xs ++ ds)) → (∀ W, Up W w → W.heap.size ≤ N → Up W w') → wpList Tryz.prog ops Q rest (a.put o.dst (.slice ax2 (q + ds.length) cx2)) w') :
  wpList Tryz.prog ops Q (o :: rest) a w := by
 obtain ⟨i0, hi0, hz0, hz1, hz2⟩ := info_parts Tryz.infoU8
 obtain ⟨ay, cy, rfl, k1, k2, k3, k4⟩ := hSb
 cases ay with
 | none =>
  obtain ⟨rfl, rfl⟩ := k3 rfl
  refine wpList_plain hgd fun K2 hK => ?_
  have hr := run_app_none (ty := o.type) (c := 0) hR
  unfold Oper.wp execOp
  simp only [List.length_nil] at hy
  simp only [ho, resolve, invoke, builtin, Sem.run_bind, Sem.run_pure, Result.andThen_ok, List.map_toArray, List.map_cons, List.map_nil, hx, hy, hr]
  exact hK _ _ (K ax cx w (by rw [List.append_nil]; exact hR) (fun W hU _ => hU))
 | some ad =>
  refine wpList_append_frs hgd x y 22 ho N 5 i0 (.int .u8 0) 1 Tryz.underlying22 hi0 hz0 hz1 hz2 rfl _ q _ hx hR ad ds.length cy (cb ds) hy (by rw [cb_length]; omega) (k4 ad rfl).2 (cb_one ds) (by simp only [maxLen]; omega) (by omega) hNw ?_
  intro v8 w8 o8 g8 _
  obtain ⟨a4, c4, rfl⟩ := row_len o8
  exact K a4 c4 w8 (by rw [cb_append]; exact o8) (fun W hU hW => up_grownBy hU g8 (fun g hg => Nat.le_trans hW (World.ownsRow.lt hR g hg).1))
def unc : Nat → List UInt8 → List UInt8 → Er (List UInt8 × List UInt8)
 | 0, _, _ => .error 2
 | f + 1, body, l => match cutL 256 l with
   | .error k => .error (if k = 1 then 20 else k)
   | .ok (ln, k) => match cSz ln with
     | .error e => .error e
     | .ok z => if 1048576 < z + body.length then .error 1 else match cCk z (l.drop k) with
       | .error e => .error e
       | .ok (d, r) => if z = 0 then .ok (body ++ d, r) else unc f (body ++ d) r
def unk (l : List UInt8) : Er (List UInt8 × Nat) := match unc (l.length + 1) [] l with
 | .error e => .error e
 | .ok (b, r) => .ok (b, l.length - r.length)
theorem cSz_er {l : List UInt8} {k : Nat} (h : cSz l = .error k) : k = 8 := by
 have hc : ∀ (l : List UInt8) (d z k : Nat), csl d z l = .error k → k = 8 := by
  intro l
  induction l with
  | nil => intro d z k h; cases h
  | cons x r ih =>
   intro d z k h
   rw [csl] at h
   split at h
   · cases h
   split at h
   · injection h with h; exact h.symm
   split at h
   · injection h with h; exact h.symm
   exact ih _ _ _ h
 unfold cSz at h
 split at h
 · rename_i hh
   injection h with h
   subst h
   exact hc _ _ _ _ hh
 split at h
 · injection h with h; exact h.symm
 cases h
theorem cCk_er {s : Nat} {l : List UInt8} {k : Nat} (h : cCk s l = .error k) : k = 2 ∨ k = 8 := by
 unfold cCk at h
 split at h
 · injection h with h; exact .inl h.symm
 split at h
 · injection h with h; exact .inl h.symm
 split at h
 · cases h
 injection h with h; exact .inr h.symm
theorem cCk_ok {s : Nat} {l d r : List UInt8} (h : cCk s l = .ok (d, r)) : d = l.take s ∧ d.length = s ∧ s + r.length < l.length := by
 unfold cCk at h
 split at h
 · cases h
 split at h
 · cases h
 rename_i hl x r' ht
 split at h
 · injection h with h
   injection h with e1 e2
   subst e1 e2
   have h1 : (tpr (l.drop s)).length ≤ l.length - s := by
    rw [← List.length_drop]
    unfold tpr
    split
    · rw [List.length_drop]; omega
    exact Nat.le_refl _
   rw [ht, List.length_cons] at h1
   exact ⟨rfl, by rw [List.length_take]; omega, by omega⟩
 cases h
theorem unc_fuel : ∀ (f g : Nat) (b l : List UInt8), l.length < f → l.length < g → unc f b l = unc g b l
 | 0, _, _, _, h, _ => absurd h (by omega)
 | _, 0, _, _, _, h => absurd h (by omega)
 | f + 1, g + 1, b, l, hf, hg => by
  rw [unc, unc]
  cases hc : cutL 256 l with
  | error k => rfl
  | ok p =>
   obtain ⟨ln, k⟩ := p
   have h1 := cutL_ok hc
   dsimp only
   cases hz : cSz ln with
   | error e => rfl
   | ok z =>
    dsimp only
    split
    · rfl
    cases hd : cCk z (l.drop k) with
    | error e => rfl
    | ok q =>
     obtain ⟨d, r⟩ := q
     have h2 := cCk_ok hd
     rw [List.length_drop] at h2
     dsimp only
     rw [unc_fuel f g (b ++ d) r (by omega) (by omega)]
def UnR (ad : Nat → Addr) (w w' : World) (e : Ending) : Er (List UInt8 × Nat) → Prop
 | .error k => e = .returned (.tuple #[.slice none 0 0, .int .i64 0, erV ad k])
 | .ok (b, k) => ∃ v, e = .returned (.tuple #[v, .int .i64 (k : Int), .nilIface]) ∧ Hd (Ow w' w.heap.size v b)
set_option maxRecDepth 100000 in
set_option maxHeartbeats 1000000 in
theorem unchunk_walk (ad : Nat → Addr) {a : Option Addr} {n c : Nat} {ds : List UInt8} (hn40 : n ≤ 1099511627776) (w : World) (hS : Sb w (.slice a n c) ds) (h : GE w ad) : Calls Tryz.prog 86 #[.slice a n c] w fun e w' => UnR ad w w' e (unk ds) ∧ Up w w' := by
 have HG := Ho h
 clear h
 obtain ⟨hn, hnc, hcm⟩ := hS.len
 unfold maxLen at hcm
 have HN := Ho hn
 have HSb := Ho hS
 clear hn hS
 go_enter Tryz.func86, Tryz.ntmps86
 go_wp2
 go_loopw [5, 6] (fun v5 v6 wr => ∃ (a5 : Option Addr) (nb c5 : Nat) (body : List UInt8) (a6 : Option Addr) (n6 c6 : Nat) (l6 : List UInt8), v5 = .slice a5 nb c5 ∧ v6 = .slice a6 n6 c6 ∧ nb ≤ 1048576 ∧ n6 ≤ n ∧ Hd (wr.ownsRow w.heap.size 5 1 (.slice a5 nb c5) nb (cb body) ∧ body.length = nb ∧ Up w wr ∧ (∀ w0, Sb w0 (.slice a n c) ds → Sb w0 (.slice a6 n6 c6) l6) ∧ unc (n + 1) [] ds = unc (n6 + 1) body l6)) (fun _ v6 _ => match v6 with | .slice _ n6 _ => n6 | _ => 0)
 case atStart => exact ⟨none, 0, 0, [], a, n, c, ds, rfl, rfl, by omega, Nat.le_refl _, Ho ⟨World.ownsRow_nil _ _ _ _, rfl, Up.refl _, fun _ h => h, rfl⟩⟩
 case round =>
  obtain ⟨a5, nb, c5, body, a6, n6, c6, l6, rfl, rfl, hnb, hn6, hQ⟩ := hrel
  have HQ := Ho hQ.o
  clear hQ
  have HS6 := Ho (HQ.o.2.2.2.1 w HSb.o)
  obtain ⟨hl6, hnc6, hcm6⟩ := HS6.o.len
  have HN6 := Ho hl6
  clear hl6
  unfold maxLen at hcm6
  have HCL := Ho (cutLine_at ad 256 256 (by decide) (by decide) wr (HS6.o.up HQ.o.2.2.1) (HG.o.up HQ.o.2.2.1))
  have HEr := Ho (show ∀ k, unc (n6 + 1) body l6 = .error k → unk ds = .error k from fun k hk => by unfold unk; rw [← HN.o, HQ.o.2.2.2.2, hk])
  go_wp2_with fail
  refine HCL.o.mono ?_
  rintro e w2 ⟨rfl, h9⟩
  have HU2 := Ho (HQ.o.2.2.1.trans h9)
  have HO2 := Ho (ow_up HQ.o.1 h9)
  clear h9 HCL
  cases hc : cutL 256 l6 with
  | error k =>
   unfold clR
   dsimp only
   have hg4 : w2.cell? ⟨11, 0, none⟩ = some (ev (ad 8)) := (HG.o.up HU2.o).gl 8 (by decide)
   rcases cutL_er hc with hk | hk
   case' _ =>
    subst hk
    have HE := Ho (HEr.o 20 (by rw [unc, hc]; rfl))
    go_wp2_with fail
    refine (tooLongAs_yes ad 8 w2 (HG.o.up HU2.o)).mono ?_
   rotate_left
   case' _ =>
    subst hk
    have HE := Ho (HEr.o 2 (by rw [unc, hc]; rfl))
    go_wp2_with fail
    refine (tooLongAs_no ad 8 2 (by decide) (by decide) w2 (HG.o.up HU2.o)).mono ?_
   all_goals
    rintro e w3 ⟨rfl, h9⟩
    have HU3 := Ho (HU2.o.trans h9)
    clear h9
    dsimp only
    go_wp2
    go_ret3
    refine ⟨?_, HU3.o⟩
    rw [HE.o]
    rfl
  | ok q =>
   obtain ⟨ln, k⟩ := q
   unfold clR
   dsimp only
   have hck := cutL_ok hc
   have hkn : k ≤ n6 := by rw [HN6.o]; exact hck.2.1
   have hk0 : 0 < k := hck.1
   have hknz : (k : Int) ≤ (n6 : Int) := by omega
   have hcv := conv_sb2 (w := w2) ((((show Sb w (.slice a6 l6.length c6) l6 by rw [← HN6.o]; exact HS6.o).take ln.length (by omega)).up HU2.o))
   rw [← hck.2.2.2.1] at hcv
   have HCS := Ho (chunkSize_walk ad ⟨ln.toArray⟩ (by rw [Go.Lib.size_eq]; show ln.length ≤ _; omega) w2 (HG.o.up HU2.o))
   rw [show (⟨ln.toArray⟩ : ByteArray).data.toList = ln from rfl] at HCS
   clear hck
   cases hz : cSz ln with
   | error e =>
    have he8 := cSz_er hz
    subst he8
    rw [hz] at HCS
    unfold csR at HCS
    have HE := Ho (HEr.o 8 (by rw [unc, hc]; dsimp only; rw [hz]))
    go_wp2_with fail
    refine HCS.o.mono ?_
    rintro e w3 ⟨rfl, h9⟩
    have HU3 := Ho (HU2.o.trans h9)
    clear h9 hcv
    dsimp only
    go_wp2
    go_ret3
    refine ⟨?_, HU3.o⟩
    rw [HE.o]
    rfl
   | ok z =>
    rw [hz] at HCS
    unfold csR at HCS
    dsimp only at HCS
    go_wp2_with fail
    refine HCS.o.mono ?_
    rintro e w3 ⟨rfl, h9⟩
    have HU3 := Ho (HU2.o.trans h9)
    have HO3 := Ho (ow_up HO2.o h9)
    clear h9 hcv HCS
    dsimp only
    by_cases hbig : 1048576 < z + nb
    · have hbz : (1048576 : Int) - (nb : Int) < (z : Int) := by omega
      have HE := Ho (HEr.o 1 (by rw [unc, hc]; dsimp only; rw [hz]; dsimp only; rw [if_pos (by rw [HQ.o.2.1]; exact hbig)]))
      go_wp2
      refine wp_region_held_drew (S := fun w2 => GE w2 ad ∧ Up w w2) (by kernel_rfl) ⟨HG.o.up HU3.o.drew, HU3.o.drew⟩ (fun hS => ?_)
      refine tK 0 (some 39) (.load 106 (.global 2)) 106 (ev (ad 1)) hS ?_ ?_
      · intro _ _ w5 hSw
        have hgl : w5.cell? ⟨2, 0, none⟩ = _ := hSw.1.gl 1 (by decide)
        clear hSw hS
        go_simp
      simp only [Act.put, pB, pC, pD]
      refine tN 1 (some 2) (.assign (.const (.slice none 0 0))) 22 (.slice none 0 0) hS ?_
      simp only [pA, pB, pC, pD]
      refine tN 2 (some 3) (.assign (.const (.int .i64 0))) 3 (.int .i64 0) hS ?_
      simp only [pA, pB, pC, pD]
      refine tN 3 (some 4) (.assign (.tmp 39)) 106 (ev (ad 1)) hS ?_
      simp only [pA, pB, pC, pD]
      refine wpAnyH_done (by kernel_rfl) ?_ _
      have HS2 := Ho hS.2
      clear hS
      go_wp2
      go_ret3
      refine ⟨?_, HS2.o⟩
      rw [HE.o]
      rfl
    have hbz : ¬ (1048576 : Int) - (nb : Int) < (z : Int) := by omega
    have hSk := HS6.o.sub k n6 hkn (by rw [← HN6.o]; exact Nat.le_refl _)
    rw [show (l6.take n6).drop k = l6.drop k by rw [HN6.o, List.take_length]] at hSk
    have HCC := Ho (cutChunk_walk ad z w3 (hSk.up HU3.o) (HG.o.up HU3.o))
    have HSk := Ho hSk
    clear hSk
    go_wp2_with (with_reducible show wpList _ _ _ (⟨_, .slice 22 _ _ _ _, _, _, _, _⟩ :: _) _ _; refine Shut.out ?_)
    show wpList _ _ _ _ _ _
    refine wpList_val7 (.slice (sv a6 c6 k) (n6 - k) (c6 - k)) rfl (exec_sublo hkn rfl rfl rfl) ?_
    simp only [Act.put, pB, pC, pD]
    cases hd : cCk z (l6.drop k) with
    | error e =>
     rw [hd] at HCC
     unfold CcR at HCC
     dsimp only at HCC
     have he := cCk_er hd
     have HE := Ho (HEr.o e (by rw [unc, hc]; dsimp only; rw [hz]; dsimp only; rw [if_neg (by rw [HQ.o.2.1]; exact hbig), hd]))
     go_wp2_with fail
     refine HCC.o.mono ?_
     rintro e9 w4 ⟨rfl, h9⟩
     have HU4 := Ho (HU3.o.trans h9)
     clear h9
     dsimp only
     go_wp2
     go_ret3
     refine ⟨?_, HU4.o⟩
     rw [HE.o]
     rcases he with rfl | rfl <;> rfl
    | ok q =>
     obtain ⟨d, r⟩ := q
     rw [hd] at HCC
     unfold CcR at HCC
     dsimp only at HCC
     obtain ⟨hd1, hd2, hd3⟩ := cCk_ok hd
     rw [List.length_drop, ← HN6.o] at hd3
     go_wp2_with fail
     refine HCC.o.mono ?_
     rintro e9 w4 ⟨⟨a7, c7, rfl, hF7⟩, h9⟩
     have HU4 := Ho (HU3.o.trans h9)
     have HO4 := Ho (ow_up HO3.o h9)
     have HF7 := Ho hF7.o
     clear h9 HCC hF7
     dsimp only
     have HSd := Ho (show Sb w4 (.slice (sv a6 c6 k) z (c6 - k)) d by
      have h1 := (show Sb w (.slice (sv a6 c6 k) (l6.drop k).length (c6 - k)) (l6.drop k) by rw [List.length_drop, ← HN6.o]; exact HSk.o).take z (by rw [List.length_drop, ← HN6.o]; omega)
      rw [← hd1] at h1
      exact h1.up HU4.o)
     rw [hd2]
     have HD2 := Ho hd2
     clear hd1 hd2
     obtain ⟨rl, hrl⟩ := ny r.length
     rw [hrl] at HF7 hd3 ⊢
     have HRL := Ho hrl
     clear hrl
     go_wp2_with (with_reducible refine sA ?_)
     show wpList _ _ _ _ _ _
     refine wpList_appSb (N := w.heap.size) rfl _ _ rfl a5 c5 body _ d rfl rfl HSd.o HO4.o HU4.o.size (by rw [HD2.o]; omega) ?_
     intro a8 c8 w8 o8 u8'
     have HO8 := Ho o8
     have HU8 := Ho (u8' w HU4.o (Nat.le_refl _))
     clear o8 u8'
     rw [HD2.o] at HO8 ⊢
     simp only [Act.put, pB, pC, pD]
     by_cases hz0 : z = 0
     · have hzz : ((z : Int) == 0) = true := by rw [hz0]; rfl
       have HE := Ho (show unk ds = .ok (body ++ d, n - rl) by
        unfold unk
        rw [← HN.o, HQ.o.2.2.2.2, unc, hc]
        dsimp only
        rw [hz]
        dsimp only
        rw [if_neg (by rw [HQ.o.2.1]; exact hbig), hd]
        dsimp only
        rw [if_pos hz0]
        dsimp only
        rw [HRL.o])
       have HB := Ho (show (body ++ d).length = nb + z by rw [List.length_append, HQ.o.2.1, HD2.o])
       have hnr : ((n - rl : Nat) : Int) = (n : Int) - (rl : Int) := by omega
       clear hz0
       go_wp2
       go_ret3
       refine ⟨?_, HU8.o⟩
       rw [HE.o]
       refine ⟨.slice a8 (nb + z) c8, ?_, Ho (by unfold Ow; rw [HB.o]; exact HO8.o)⟩
       rw [hnr]
       rfl
     have hzz : ((z : Int) == 0) = false := by rw [beq_eq_false_iff_ne]; omega
     have HNx := Ho (show unc (n + 1) [] ds = unc (rl + 1) (body ++ d) r by
      rw [HQ.o.2.2.2.2, unc, hc]
      dsimp only
      rw [hz]
      dsimp only
      rw [if_neg (by rw [HQ.o.2.1]; exact hbig), hd]
      dsimp only
      rw [if_neg hz0]
      exact unc_fuel _ _ _ _ (by rw [HRL.o]; omega) (by rw [HRL.o]; omega))
     go_wp2
     go_roundw
     all_goals first
      | exact ⟨a8, nb + z, c8, body ++ d, a7, rl, c7, r, rfl, rfl, by omega, by omega, Ho ⟨HO8.o, by rw [List.length_append, HQ.o.2.1, HD2.o], HU8.o, fun w0 h0 => HF7.o w0 (by
         have hSk := (HQ.o.2.2.2.1 w0 h0).sub k n6 hkn (by rw [← HN6.o]; exact Nat.le_refl _)
         rw [show (l6.take n6).drop k = l6.drop k by rw [HN6.o, List.take_length]] at hSk
         exact hSk), HNx.o⟩⟩
      | (show rl < n6; omega)
set_option maxRecDepth 100000 in
set_option maxHeartbeats 1000000 in
theorem Clone_walk (v : Value) (ds : List UInt8) (w : World) (hd : Sb w v ds) (hl : ds.length ≤ 140737488355328) :
  Calls Tryz.prog 153 #[v] w fun e w' => ∃ v', e = .returned v' ∧ Ow w' w.heap.size v' ds ∧ Up w w' := by
 obtain ⟨i0, hi, hz0, hz1, hz2⟩ := info_parts Tryz.infoU8
 obtain ⟨a, c, rfl, h1, h2, h3, h4⟩ := hd
 cases a with
 | none =>
  obtain ⟨rfl, rfl⟩ := h3 rfl
  clear h4 h3 h2 h1
  have heq : ∀ w', (binOp .eql 22 (.slice none 0 0) (.slice none 0 0)).run Tryz.prog w' = .ok (.bool true) w' := fun w' => Go.Lib.run_eql_slice_nil w' 22 5 none 0 0 0 0 Tryz.underlying22
  go_enter Tryz.func153, Tryz.ntmps153
  go_wp2
  go_ret
  exact ⟨_, rfl, World.ownsRow_nil _ _ _ _, Up.refl _⟩
 | some ad =>
  have HS := Ho (h4 ad rfl).2
  have HO := Ho (own_empty w)
  have HU := Ho ((Up.refl w).alloc (.cells #[] 5))
  clear h4 h3
  have heq : ∀ w', (binOp .eql 22 (.slice (some ad) ds.length c) (.slice none 0 0)).run Tryz.prog w' = .ok (.bool false) w' := fun w' => Go.Lib.run_eql_slice_nil w' 22 5 (some ad) ds.length c 0 0 Tryz.underlying22
  go_enter Tryz.func153, Tryz.ntmps153
  go_wp2_with (with_reducible refine sA ?_)
  show wpList _ _ _ _ _ _
  refine wpList_append_frs rfl _ _ 22 rfl w.heap.size 5 i0 (.int .u8 0) 1 Tryz.underlying22 hi hz0 hz1 hz2 rfl _ 0 [] rfl HO.o ad ds.length c (cb ds) rfl (by rw [cb_length]; omega) (fun j u hj => HU.o.cell (HS.o j u hj)) (cb_one ds) (by simp only [maxLen]; omega) (by omega) (by have := HU.o.size; exact this) ?_
  intro v1 w1 o1 g1 f1
  have HO1 := Ho (show Ow w1 w.heap.size v1 ds by unfold Ow; simpa using o1)
  have HU1 := Ho (up_grownBy HU.o g1 (fun g hg => by have e : w.heap.size = g := Option.some.inj hg; omega))
  clear o1 g1 f1
  simp only [Act.put, pB, pC, pD]
  go_wp2
  go_ret
  exact ⟨_, rfl, HO1.o, HU1.o⟩
def fcu (way : Int) (len : Nat) (l : List UInt8) : Er (List UInt8 × Nat) :=
 if way = 3 then (match unk l with
  | .error k => .error (if k = 1 then 19 else k)
  | .ok p => .ok p)
 else if way = 1 then (if 1048576 < l.length then .error 7 else .ok (l, l.length))
 else if way = 2 then (if l.length < len then .error 2 else .ok (l.take len, len))
 else .ok ([], 0)
theorem unc_er : ∀ (f : Nat) (b l : List UInt8) (k : Nat), unc f b l = .error k → k = 1 ∨ k = 2 ∨ k = 8 ∨ k = 20
 | 0, _, _, k, h => by injection h with h; exact .inr (.inl h.symm)
 | f + 1, b, l, k, h => by
  rw [unc] at h
  cases hc : cutL 256 l with
  | error e =>
   rw [hc] at h
   dsimp only at h
   injection h with h
   rcases cutL_er hc with rfl | rfl
   · exact .inr (.inr (.inr h.symm))
   exact .inr (.inl h.symm)
  | ok p =>
   obtain ⟨ln, q⟩ := p
   rw [hc] at h
   dsimp only at h
   cases hz : cSz ln with
   | error e => rw [hz] at h; injection h with h; have := cSz_er hz; omega
   | ok z =>
    rw [hz] at h
    dsimp only at h
    split at h
    · injection h with h; exact .inl h.symm
    cases hd : cCk z (l.drop q) with
    | error e => rw [hd] at h; injection h with h; have := cCk_er hd; omega
    | ok r =>
     obtain ⟨d, r⟩ := r
     rw [hd] at h
     dsimp only at h
     split at h
     · cases h
     exact unc_er f _ _ _ h
theorem unk_er {l : List UInt8} {k : Nat} (h : unk l = .error k) : k = 1 ∨ k = 2 ∨ k = 8 ∨ k = 20 := by
 unfold unk at h
 split at h
 · rename_i hh
   injection h with h
   subst h
   exact unc_er _ _ _ _ hh
 cases h
set_option maxRecDepth 100000 in
set_option maxHeartbeats 1000000 in
theorem cut_walk (ad : Nat → Addr) (way : Int) (len : Nat) (hlen : len ≤ 1099511627776) {a : Option Addr} {n c : Nat} {ds : List UInt8} (hn40 : n ≤ 1099511627776) (w : World) (hS : Sb w (.slice a n c) ds) (h : GE w ad) : Calls Tryz.prog 119 #[.agg #[.int .i64 way, .int .i64 (len : Int)], .slice a n c] w fun e w' => UnR ad w w' e (fcu way len ds) ∧ Up w w' := by
 have HG := Ho h
 clear h
 obtain ⟨hn, hnc, hcm⟩ := hS.len
 unfold maxLen at hcm
 have HN := Ho hn
 have HSb := Ho hS
 clear hn hS
 have HA := Ho (at_new w 185 [.int .i64 way, .int .i64 (len : Int)])
 have HU := Ho ((Up.refl w).alloc (.cells #[.int .i64 way, .int .i64 (len : Int)] 185))
 go_enter Tryz.func119, Tryz.ntmps119
 go_wp2_with (with_reducible refine sF 185 ?_)
 show wpList _ _ _ _ _ _
 obtain ⟨w1, hw1⟩ := ny (w.alloc (.cells #[.int .i64 way, .int .i64 (len : Int)] 185))
 have HA1 := Ho (show At w1 w.heap.size 185 [.int .i64 way, .int .i64 (len : Int)] by rw [← hw1]; exact HA.o)
 have HU1 := Ho (show Up w w1 by rw [← hw1]; exact HU.o)
 rw [hw1]
 clear hw1 HA HU
 have c0 : w1.cell? ⟨w.heap.size, 0, none⟩ = some (.int .i64 way) := HA1.o.cell (i := 0) rfl
 have c1 : w1.cell? ⟨w.heap.size, 1, none⟩ = some (.int .i64 (len : Int)) := HA1.o.cell (i := 1) rfl
 by_cases h3 : way = 3
 · have z3' : (way == 3) = true := by rw [h3]; rfl
   have HUk := Ho (unchunk_walk ad hn40 w1 (HSb.o.up HU1.o) (HG.o.up HU1.o))
   have HF := Ho (show fcu way len ds = match unk ds with | .error k => .error (if k = 1 then 19 else k) | .ok p => .ok p by unfold fcu; rw [if_pos h3])
   clear h3 c1
   cases hu : unk ds with
   | error k =>
    rw [hu] at HUk HF
    dsimp only at HF
    unfold UnR at HUk
    dsimp only at HUk
    go_wp2_with fail
    refine HUk.o.mono ?_
    rintro e w2 ⟨rfl, h9⟩
    have HU2 := Ho (HU1.o.trans h9)
    clear h9 c0
    dsimp only
    have hg7 : w2.cell? ⟨6, 0, none⟩ = some (ev (ad 7)) := (HG.o.up HU2.o).gl 7 (by decide)
    rcases unk_er hu with rfl | rfl | rfl | rfl
    case' _ =>
     go_wp2_with fail
     refine (tooLongAs_yes ad 7 w2 (HG.o.up HU2.o)).mono ?_
    rotate_left
    case' _ =>
     go_wp2_with fail
     refine (tooLongAs_no ad 7 2 (by decide) (by decide) w2 (HG.o.up HU2.o)).mono ?_
    rotate_left
    case' _ =>
     go_wp2_with fail
     refine (tooLongAs_no ad 7 8 (by decide) (by decide) w2 (HG.o.up HU2.o)).mono ?_
    rotate_left
    case' _ =>
     go_wp2_with fail
     refine (tooLongAs_pl ad 7 8 (ad 1) (by decide) (by decide) w2 (HG.o.up HU2.o)).mono ?_
    all_goals
     rintro e w3 ⟨rfl, h9⟩
     have HU3 := Ho (HU2.o.trans h9)
     clear h9
     dsimp only
     go_wp2
     go_ret3
     refine ⟨?_, HU3.o⟩
     rw [HF.o]
     rfl
   | ok p =>
    obtain ⟨b, k⟩ := p
    rw [hu] at HUk HF
    dsimp only at HF
    unfold UnR at HUk
    dsimp only at HUk
    go_wp2_with fail
    refine HUk.o.mono ?_
    rintro e w2 ⟨⟨v, rfl, hv⟩, h9⟩
    have HU2 := Ho (HU1.o.trans h9)
    have HV := Ho hv.o
    clear h9 c0 hv
    dsimp only
    have hg7 : w2.cell? ⟨6, 0, none⟩ = some (ev (ad 7)) := (HG.o.up HU2.o).gl 7 (by decide)
    go_wp2_with fail
    refine (tooLongAs_nil ad 7 w2 (HG.o.up HU2.o)).mono ?_
    rintro e w3 ⟨rfl, h9⟩
    have HU3 := Ho (HU2.o.trans h9)
    have HV3 := Ho (ow_up HV.o h9)
    clear h9
    dsimp only
    go_wp2
    go_ret3
    refine ⟨?_, HU3.o⟩
    rw [HF.o]
    exact ⟨_, rfl, Ho (ow_base HV3.o HU1.o.size)⟩
 have z3' : (way == 3) = false := by rw [beq_eq_false_iff_ne]; exact h3
 by_cases h1 : way = 1
 · have z1 : (way == 1) = true := by rw [h1]; rfl
   have HF := Ho (show fcu way len ds = if 1048576 < ds.length then .error 7 else .ok (ds, ds.length) by unfold fcu; rw [if_neg h3, if_pos h1])
   clear h3 h1 c1
   by_cases hbig : 1048576 < n
   · have hbz : (1048576 : Int) < (n : Int) := by omega
     have HE := Ho (show fcu way len ds = .error 7 by rw [HF.o, if_pos (by rw [← HN.o]; exact hbig)])
     go_wp2
     refine wp_region_held_drew (S := fun w2 => GE w2 ad ∧ Up w w2) (by kernel_rfl) ⟨HG.o.up HU1.o.drew, HU1.o.drew⟩ (fun hS => ?_)
     refine tK 0 (some 27) (.load 106 (.global 6)) 106 (ev (ad 7)) hS ?_ ?_
     · intro _ _ w5 hSw
       have hgl : w5.cell? ⟨6, 0, none⟩ = _ := hSw.1.gl 7 (by decide)
       clear hSw hS
       go_simp
     simp only [Act.put, pB, pC, pD]
     refine tN 1 (some 4) (.assign (.const (.slice none 0 0))) 22 (.slice none 0 0) hS ?_
     simp only [pA, pB, pC, pD]
     refine tN 2 (some 5) (.assign (.const (.int .i64 0))) 3 (.int .i64 0) hS ?_
     simp only [pA, pB, pC, pD]
     refine tN 3 (some 6) (.assign (.tmp 27)) 106 (ev (ad 7)) hS ?_
     simp only [pA, pB, pC, pD]
     refine wpAnyH_done (by kernel_rfl) ?_ _
     have HS2 := Ho hS.2
     clear hS
     go_wp2
     go_ret3
     refine ⟨?_, HS2.o⟩
     rw [HE.o]
     rfl
   have hbz : ¬ (1048576 : Int) < (n : Int) := by omega
   have HE := Ho (show fcu way len ds = .ok (ds, n) by rw [HF.o, if_neg (by rw [← HN.o]; exact hbig), ← HN.o])
   have HCl := Ho (Clone_walk (.slice a n c) ds w1 (HSb.o.up HU1.o) (by rw [← HN.o]; omega))
   go_wp2_with fail
   refine HCl.o.mono ?_
   rintro e w2 ⟨v, rfl, hv, h9⟩
   have HU2 := Ho (HU1.o.trans h9)
   have HV := Ho hv
   clear h9 c0 hv
   dsimp only
   go_wp2
   go_ret3
   refine ⟨?_, HU2.o⟩
   rw [HE.o]
   exact ⟨_, rfl, Ho (ow_base HV.o HU1.o.size)⟩
 have z1 : (way == 1) = false := by rw [beq_eq_false_iff_ne]; exact h1
 by_cases h2 : way = 2
 · have z2 : (way == 2) = true := by rw [h2]; rfl
   have HF := Ho (show fcu way len ds = if ds.length < len then .error 2 else .ok (ds.take len, len) by unfold fcu; rw [if_neg h3, if_neg h1, if_pos h2])
   clear h3 h1 h2
   by_cases hlt : n < len
   · have hltz : (n : Int) < (len : Int) := by omega
     have HE := Ho (show fcu way len ds = .error 2 by rw [HF.o, if_pos (by rw [← HN.o]; exact hlt)])
     go_wp2
     refine wp_region_held_drew (S := fun w2 => GE w2 ad ∧ Up w w2) (by kernel_rfl) ⟨HG.o.up HU1.o.drew, HU1.o.drew⟩ (fun hS => ?_)
     refine tK 0 (some 39) (.load 106 (.global 17)) 106 (ev (ad 2)) hS ?_ ?_
     · intro _ _ w5 hSw
       have hgl : w5.cell? ⟨17, 0, none⟩ = _ := hSw.1.gl 2 (by decide)
       clear hSw hS
       go_simp
     simp only [pA, pB, pC, pD]
     refine tN 1 (some 4) (.assign (.const (.slice none 0 0))) 22 (.slice none 0 0) hS ?_
     simp only [pA, pB, pC, pD]
     refine tN 2 (some 5) (.assign (.const (.int .i64 0))) 3 (.int .i64 0) hS ?_
     simp only [pA, pB, pC, pD]
     refine tN 3 (some 6) (.assign (.tmp 39)) 106 (ev (ad 2)) hS ?_
     simp only [pA, pB, pC, pD]
     refine wpAnyH_done (by kernel_rfl) ?_ _
     have HS2 := Ho hS.2
     clear hS
     go_wp2
     go_ret3
     refine ⟨?_, HS2.o⟩
     rw [HE.o]
     rfl
   have hltz : ¬ (n : Int) < (len : Int) := by omega
   have HE := Ho (show fcu way len ds = .ok (ds.take len, len) by rw [HF.o, if_neg (by rw [← HN.o]; exact hlt)])
   have HCl := Ho (fun (w2 : World) (hu : Up w w2) => Clone_walk (.slice a len c) (ds.take len) w2 (((show Sb w (.slice a ds.length c) ds by rw [← HN.o]; exact HSb.o).take len (by rw [← HN.o]; omega)).up hu) (by rw [List.length_take, ← HN.o]; omega))
   go_wp2
   clear c0 c1
   refine wp_region_held_drew (S := fun w2 => At w2 w.heap.size 185 [.int .i64 way, .int .i64 (len : Int)] ∧ Up w w2) (by kernel_rfl) ⟨HA1.o.up (Up.refl _).drew, HU1.o.drew⟩ (fun hS => ?_)
   refine tN 0 (some 40) (.move (.tmp 1)) 22 (.slice a n c) hS ?_
   simp only [pA, pB, pC, pD]
   refine tN 1 (some 41) (.fieldAddr 185 (.tmp 2) 1) 0 (.pointer (some ⟨w.heap.size, 1, none⟩)) hS ?_
   simp only [pA, pB, pC, pD]
   refine tK 2 (some 42) (.load 3 (.tmp 41)) 3 (.int .i64 (len : Int)) hS ?_ ?_
   · intro _ _ w5 hSw
     have hl1 : w5.cell? ⟨w.heap.size, 1, none⟩ = some (.int .i64 (len : Int)) := hSw.1.cell (i := 1) rfl
     clear hSw hS
     go_simp
   simp only [pA, pB, pC, pD]
   refine tK 3 (some 43) (.slice 22 (.tmp 40) none (some (.tmp 42)) none) 22 (.slice a len c) hS ?_ ?_
   · intro _ _ w5 hSw
     clear hSw hS
     exact exec_subhi (by omega) rfl rfl rfl
   simp only [pA, pB, pC, pD]
   refine tN 5 (some 45) (.fieldAddr 185 (.tmp 2) 1) 0 (.pointer (some ⟨w.heap.size, 1, none⟩)) hS ?_
   simp only [pA, pB, pC, pD]
   refine tK 6 (some 46) (.load 3 (.tmp 45)) 3 (.int .i64 (len : Int)) hS ?_ ?_
   · intro _ _ w5 hSw
     have hl1 : w5.cell? ⟨w.heap.size, 1, none⟩ = some (.int .i64 (len : Int)) := hSw.1.cell (i := 1) rfl
     clear hSw hS
     go_simp
   simp only [pA, pB, pC, pD]
   refine rD 4 (some 44) (.call ⟨.value (.func 153), #[.tmp 43], #[22]⟩) 22 fun _ _ K hK => ?_
   rw [if_pos (by kernel_rfl)]
   go_simp
   refine (HCl.o _ hS.2).mono ?_
   rintro e w5 ⟨v5, rfl, o5, u5⟩
   have HO5 := Ho o5
   have HU5 := Ho (hS.2.trans u5)
   have HA5 := Ho (hS.1.up u5)
   clear o5 u5
   dsimp only
   refine hK.out _ _ ⟨HA5.o, HU5.o⟩ (fun hS => ?_)
   clear hK K
   refine tN 7 (some 4) (.assign (.tmp 44)) 22 v5 hS ?_
   simp only [Act.put, pB, pC, pD]
   refine tN 8 (some 5) (.assign (.tmp 46)) 3 (.int .i64 (len : Int)) hS ?_
   simp only [pA, pB, pC, pD]
   refine tN 9 (some 6) (.assign (.const .nilIface)) 106 .nilIface hS ?_
   simp only [pA, pB, pC, pD]
   clear hS
   refine wpAnyH_done (by kernel_rfl) ?_ _
   go_wp2
   go_ret3
   refine ⟨?_, HU5.o⟩
   rw [HE.o]
   exact ⟨_, rfl, Ho (ow_base HO5.o (by first | exact HU1.o.size | exact (HU1.o.drew).size))⟩
 have z2 : (way == 2) = false := by rw [beq_eq_false_iff_ne]; exact h2
 have HE := Ho (show fcu way len ds = .ok ([], 0) by unfold fcu; rw [if_neg h3, if_neg h1, if_neg h2])
 clear h3 h1 h2 c1
 go_wp2
 go_ret3
 refine ⟨?_, HU1.o⟩
 rw [HE.o]
 exact ⟨_, rfl, Ho (World.ownsRow_nil _ _ _ _)⟩
end Go.Proofs.YtehnnlhoajdcaaaGreatDoor
