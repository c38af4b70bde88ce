import Derived.Test.YtngoedhddjakhaaFr
import Derived.Lib.SliceRun
namespace Go.Proofs.Ytngoedhddjakhaa
open Go.RowKit Go.Shelf TextNum TileNum
theorem own_new (w : World) : Own (w.alloc (.cells #[] 5)) w.heap.size (.slice (some ⟨w.heap.size, 0, none⟩) 0 0) [] :=
  ⟨rfl, .inr ⟨w.heap.size, 0, #[], rfl, Nat.le_refl _, alloc_new _ _, Nat.le_refl _, by decide, rfl, rfl⟩⟩
set_option maxRecDepth 100000 in
theorem clone_walk (ad : Addr) (c : Nat) (r : List UInt8) (w : World) (h : Sl w (.slice (some ad) r.length c) r) (hl : r.length ≤ 140737488355328) : Calls Try.prog 37 #[.slice (some ad) r.length c] w fun e w' => ∃ v, e = .returned v ∧ Own w' w.heap.size v r ∧ Up w w' := by
  have HS := Hid.of h
  clear h
  have q22 : ∀ (w : World) (a : Option Addr) (n c n' c' : Nat), (binOp .eql 23 (.slice a n c) (.slice none n' c')).run Try.prog w = .ok (.bool a.isNone) w := fun w a n c n' c' => Go.Lib.run_eql_slice_nil w _ _ a n c n' c' Try.underlying23
  go_enter Try.func37, Try.ntmps37
  go_wp2_with (with_reducible show wpList _ _ _ ({ dst := _, op := Op.call { callee := Callee.builtin Builtin.append, args := _, argTypes := _ }, type := _, pos := _, after := _, guard := _ } :: _) _ _; refine Shut.out ?_)
  show wpList _ _ _ _ _ _
  have up1 := (Up.refl w).alloc (.cells #[] 5)
  refine wpList_appSl rfl _ _ rfl w.heap.size _ _ [] r rfl (own_new w) rfl (HS.out.up up1) (by simpa using hl) (by simp) ?_
  intro v1 w2 h2 k2
  have H2 := Hid.of (And.intro h2 (Up.step up1 (Nat.le_refl _) k2))
  clear h2 k2
  simp only [Act.put, List.setIfInBounds_toArray, List.set_cons_zero, List.set_cons_succ]
  go_wp2
  go_ret
  exact ⟨_, rfl, H2.out.1, H2.out.2⟩
theorem own_lt {w : World} {B : Nat} {v : Value} {l : List UInt8} (h : Own w B v l) {g : Nat} (hg : v.ownBlock = some g) : B ≤ g ∧ g < w.heap.size := World.ownsRow.lt h g hg
theorem wpList_appLT {ops : Array Oper} {rest : List Oper} {o : Oper} {a : Act} {w1 w2 : World} {t : TypeId} {Q : Exit → Act → World → Prop} (hgd : o.guard = none) (s x : Operand)
    (ho : o.op = .call { callee := .builtin .append, args := #[s, x], argTypes := #[22, 22] }) (B : Nat) (v : Value) (rs : List (List UInt8)) (u : Value) (r : List UInt8) (hs : a.eval s = v) (hown : LT w1 B v rs) (up : Up w1 w2) (hu : Own w2 w1.heap.size u r)
    (c : Nat) (hx : a.eval x = .slice (some ⟨w2.heap.size, 0, none⟩) 1 c) (hn : rs.length < 1000000) (hB : B ≤ w1.heap.size)
    (h : ∀ v' w', LT w' B v' (rs ++ [r]) → Below B w2 w' → Kt 23 w2 w' → wpList Try.prog ops Q rest (a.put o.dst v') w') : wpList Try.prog ops Q (o :: rest) a (w2.alloc (.cells #[u] t)) := by
  have hlt := hown
  obtain ⟨xs, h1, h2, h3, h4⟩ := hown
  have up2 : Up w1 (w2.alloc (.cells #[u] t)) := up.alloc _
  have up3 : Up w2 (w2.alloc (.cells #[u] t)) := (Up.refl w2).alloc _
  have hu1 : u.oneCell' = true := by obtain ⟨a1, c1, rfl⟩ := hu.len; rfl
  have hB2 : B ≤ w2.heap.size := Nat.le_trans hB up.size
  have hcell := cells_new w2 t [u] 0 u rfl
  rw [add_plain] at hcell
  refine wpList_appT hgd s x ho B v xs u hu1 hs (h1.up up2) _ c hx hcell (by omega) (by simp; omega) ?_
  intro v' w' g1 g2 g3 _
  have hk : Kt 23 w2 w' := (Kt.up up3).trans (Kt.grown (h1.up up2) g2)
  refine h v' w' ⟨xs ++ [u], g1, by simp [h2], ?_, ?_⟩ (((Below.refl B w2).alloc hB2 _).trans g3) hk
  · intro j q hq
    rcases Nat.lt_or_ge j rs.length with hj | hj
    · rw [List.getElem?_append_left hj] at hq
      obtain ⟨z, e, oz⟩ := h3 j q hq
      exact ⟨z, by rw [List.getElem?_append_left (by omega)]; exact e, (oz.below up).kt hk (by decide)⟩
    · rw [List.getElem?_append_right hj] at hq
      have hj0 : j - rs.length = 0 := by
        rcases Nat.eq_zero_or_pos (j - rs.length) with e | e
        · exact e
        · rw [List.getElem?_eq_none (by simp; omega)] at hq; cases hq
      rw [hj0] at hq
      simp only [List.getElem?_cons_zero, Option.some.injEq] at hq
      subst hq
      refine ⟨u, ?_, (hu.base hB).kt hk (by decide)⟩
      rw [List.getElem?_append_right (by omega), show j - xs.length = 0 by omega]
      rfl
  · have hold : ∀ (i : Nat) (y : Value), xs[i]? = some y → ∀ g, y.ownBlock = some g → g < w1.heap.size := by
      intro i y hy g hg
      have hi : i < xs.length := (List.getElem?_eq_some_iff.1 hy).1
      obtain ⟨z, e, oz⟩ := h3 i (rs[i]'(by omega)) (List.getElem?_eq_getElem (by omega))
      rw [hy] at e
      cases e
      exact (own_lt oz hg).2
    have hnew : ∀ g, u.ownBlock = some g → w1.heap.size ≤ g := fun g hg => (own_lt hu hg).1
    have hlast : ∀ (i : Nat) (y : Value), (xs ++ [u])[i]? = some y → (i < xs.length ∧ xs[i]? = some y) ∨ (i = xs.length ∧ y = u) := by
      intro i y hy
      rcases Nat.lt_or_ge i xs.length with hj | hj
      · rw [List.getElem?_append_left hj] at hy; exact .inl ⟨hj, hy⟩
      · have := (List.getElem?_eq_some_iff.1 hy).1
        simp at this
        have e : i = xs.length := by omega
        subst e
        rw [List.getElem?_append_right hj] at hy
        simp at hy
        exact .inr ⟨rfl, hy.symm⟩
    intro i j p q hp hq hij g hg hg2
    rcases hlast i p hp with ⟨_, hp1⟩ | ⟨e1, ep⟩
    · rcases hlast j q hq with ⟨_, hq1⟩ | ⟨e2, eq⟩
      · exact h4 i j p q hp1 hq1 hij g hg hg2
      · have := hold i p hp1 g hg
        have := hnew g (by rw [← eq]; exact hg2)
        omega
    · rcases hlast j q hq with ⟨_, hq1⟩ | ⟨e2, eq⟩
      · have := hold j q hq1 g hg2
        have := hnew g (by rw [← ep]; exact hg)
        omega
      · omega
/-- what Cut answers -/
def CR (d : List UInt8) (k : Int) (w : World) (e : Ending) (w' : World) : Prop :=
  Up w w' ∧ if k < 0 ∨ 256 < k then e = .returned (.tuple #[.slice none 0 0, .int .i64 1]) else match ct k.toNat d with
    | none => e = .returned (.tuple #[.slice none 0 0, .int .i64 102])
    | some rs => ∃ v, e = .returned (.tuple #[v, .int .i64 0]) ∧ LT w' w.heap.size v rs
theorem fst_len {d r t : List UInt8} (h : fst d = some (r, t)) : r.length ≤ 1024 ∧ t.length ≤ d.length := by
  obtain ⟨e, h1⟩ := fst_some h
  refine ⟨h1, ?_⟩
  rw [e, List.length_append]
  omega
set_option maxRecDepth 100000 in
set_option maxHeartbeats 1000000 in
theorem cut_walk (a : Option Addr) (c : Nat) (d : List UInt8) (k : Int) (w : World) (h : Sl w (.slice a d.length c) d) (hd : d.length ≤ 9223372036854775807) : Calls Try.prog 9 #[.slice a d.length c, .int .i64 k] w (CR d k w) := by
  have HS := Hid.of h
  clear h
  by_cases h1 : k < 0
  · have hg : k < 0 ∨ 256 < k := .inl h1
    go_enter Try.func9, Try.ntmps9
    go_wp2
    go_ret2
    exact ⟨Up.refl _, by rw [if_pos hg]; rfl⟩
  · by_cases h2 : 256 < k
    · have hg : k < 0 ∨ 256 < k := .inr h2
      go_enter Try.func9, Try.ntmps9
      go_wp2
      go_ret2
      exact ⟨Up.refl _, by rw [if_pos hg]; rfl⟩
    · obtain ⟨n, rfl⟩ : ∃ n : Nat, k = (n : Int) := ⟨k.toNat, by omega⟩
      have HN : Hid (¬ ((n : Int) < 0 ∨ 256 < (n : Int))) := by intro h; omega
      have hn : n ≤ 256 := by omega
      go_enter Try.func9, Try.ntmps9
      go_wp2
      go_loopg [0, 4, 5, 6, 7, 8, 9, 17] n (fun g s0 s4 s5 s6 _ _ _ s17 wr => ∃ (i : Nat) (a1 : Option Addr) (c1 : Nat) (t : List UInt8) (rs : List (List UInt8)), i ≤ n ∧ n - i ≤ g ∧ s17 = .int .i64 (i : Int) ∧ s0 = .slice a1 t.length c1 ∧ t.length ≤ 9223372036854775807 ∧ Hid (Sl w (.slice a1 t.length c1) t) ∧ Hid (LT wr w.heap.size s6 rs) ∧ rs.length = i ∧ Hid (ct n d = (ct (n - i) t).map (rs ++ ·)) ∧ Hid (Up w wr))
      case atStart => exact ⟨0, a, c, d, [], by omega, by omega, rfl, rfl, hd, HS.out, lT_nil _ _, rfl, (show ct n d = (ct (n - 0) d).map ([] ++ ·) by simp), Up.refl _⟩
      case round =>
        obtain ⟨i, a1, c1, t, rs, hi, hk, rfl, rfl, ht, HT, HL, hrl, HE, HU⟩ := hrel
        obtain ⟨wb, hwb⟩ : ∃ wb, wb = wr := ⟨_, rfl⟩
        subst hwb
        by_cases hlt : i < n
        · have hltz : (i : Int) < (n : Int) := by omega
          have HF := Hid.of (first_walk a1 c1 t wb (HT.out.up HU.out) ht)
          have HX : Hid (ct (n - i) t = match fst t with | none => none | some (r, q) => (ct (n - (i + 1)) q).map (r :: ·)) := by
            show ct (n - i) t = _
            rw [show n - i = (n - (i + 1)) + 1 by omega]
            rfl
          have HM : Hid (∀ r q, fst t = some (r, q) → Sl w (.slice none 0 0) [] ∧ r.length ≤ 1024 ∧ q.length ≤ t.length) := fun r q h => ⟨⟨none, 0, rfl, Nat.le_refl _, .inl rfl⟩, fst_len h⟩
          go_wp2_with fail
          refine HF.out.mono ?_
          rintro e w1 ⟨u1, h1⟩
          rcases hf : fst t with _ | ⟨r, q⟩
          · rw [hf] at h1
            simp only at h1
            subst h1
            have HU1 := Hid.of (HU.out.trans u1)
            have HZ : Hid (ct n d = none) := by
              have := HE.out
              rw [HX.out, hf] at this
              exact this
            clear u1
            dsimp only
            go_wp2
            go_ret2
            refine ⟨HU1.out, ?_⟩
            rw [if_neg HN.out, Int.toNat_natCast, HZ.out]
            rfl
          · rw [hf] at h1
            simp only at h1
            obtain ⟨ad, k, a2, k2, rfl, hrq⟩ := h1
            obtain ⟨hr, hq⟩ := hrq w HT.out
            obtain ⟨_, hr2, hq2⟩ := HM.out r q hf
            have HU1 := Hid.of (HU.out.trans u1)
            have HR := Hid.of (clone_walk ad k r w1 (hr.up HU1.out) (by omega))
            have HL1 := Hid.of (HL.out.up u1)
            have HQ := Hid.of hq
            have HE1 : Hid (ct n d = (ct (n - (i + 1)) q).map ((rs ++ [r]) ++ ·)) := by
              have := HE.out
              rw [HX.out, hf] at this
              refine this.trans ?_
              simp only [Option.map_map]
              congr 1
              funext z
              simp
            have hsz := HU1.out.size
            clear u1 hr hq hrq HL HX HE HM HF hf HU HT
            dsimp only
            go_wp2_with fail
            refine HR.out.mono ?_
            rintro e w2 ⟨v2, rfl, h2, u2⟩
            obtain ⟨a3, c3, rfl⟩ := h2.len
            have H2 := Hid.of (And.intro h2 u2)
            clear h2 u2 HR
            dsimp only
            go_wp2_with (with_reducible show wpList _ _ _ ({ dst := _, op := Op.call { callee := Callee.builtin Builtin.append, args := _, argTypes := _ }, type := _, pos := _, after := _, guard := _ } :: _) _ _; refine Shut.out ?_)
            show wpList _ _ _ _ _ _
            refine wpList_appLT (w1 := w1) (w2 := w2) rfl _ _ rfl w.heap.size _ rs (.slice a3 r.length c3) r rfl (by exact HL1.out) H2.out.2 H2.out.1 1 rfl (by omega) hsz ?_
            intro v3 w3 h3 k3 _
            have H3 := Hid.of (And.intro h3 (Up.step (HU1.out.trans H2.out.2) (Nat.le_refl _) k3))
            clear h3 k3
            simp only [Act.put, List.setIfInBounds_toArray, List.set_cons_zero, List.set_cons_succ]
            go_wp2
            go_roundg (n - (i + 1))
            case measure => omega
            case rel => exact ⟨i + 1, a2, k2, q, rs ++ [r], by omega, by omega, by go_num, rfl, by omega, HQ.out, H3.out.1, by simp [hrl], HE1.out, H3.out.2⟩
        · have hltz : ¬ (i : Int) < (n : Int) := by omega
          have hi2 : i = n := by omega
          subst hi2
          have HE2 : Hid (ct i d = if t = [] then some rs else none) := by
            have := HE.out
            rw [Nat.sub_self] at this
            refine this.trans ?_
            unfold ct
            split <;> simp
          by_cases ht0 : t = []
          · subst ht0
            rw [if_pos rfl] at HE2
            go_wp2
            go_ret2
            refine ⟨HU.out, ?_⟩
            rw [if_neg HN.out, Int.toNat_natCast, HE2.out]
            exact ⟨_, rfl, HL.out⟩
          · rw [if_neg ht0] at HE2
            have htl : 0 < t.length := List.length_pos_iff.2 ht0
            have htz : 0 < (t.length : Int) := by omega
            go_wp2
            go_ret2
            refine ⟨HU.out, ?_⟩
            rw [if_neg HN.out, Int.toNat_natCast, HE2.out]
            rfl
end Go.Proofs.Ytngoedhddjakhaa
