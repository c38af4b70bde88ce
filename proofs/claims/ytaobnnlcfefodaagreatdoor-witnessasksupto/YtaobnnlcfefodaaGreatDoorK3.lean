import Derived.Test.YtaobnnlcfefodaaGreatDoorBd
namespace Go.Proofs.YtaobnnlcfefodaaGreatDoor
open Go.RowKit TextNum

theorem take_succ6 {l : List UInt8} {i : Nat} (h : i < l.length) : l.take (i + 1) = l.take i ++ [l[i]] := by simp
def slen : Value → Nat
  | .slice _ n _ => n
  | _ => 0
/-- the place of a byte, or -1 -/
def plI (t : List UInt8) (c : UInt8) : Int := match pl t c with
  | some i => (i : Int)
  | none => -1
theorem plI_some {t : List UInt8} {c : UInt8} {i : Nat} (h : i < t.length) (hc : t[i] = c) (hn : ∀ j, (hj : j < i) → t[j] ≠ c) : plI t c = (i : Int) := by
  have : pl t c = some i := by
    unfold pl
    rw [List.idxOf?_eq_some_iff]
    exact ⟨h, by simpa using hc, fun j hj => by simpa using hn j hj⟩
  unfold plI; rw [this]
theorem plI_none {t : List UInt8} {c : UInt8} (hn : ∀ j, (hj : j < t.length) → t[j] ≠ c) : plI t c = -1 := by
  have : pl t c = none := by
    unfold pl
    rw [List.idxOf?_eq_none_iff]
    intro hm
    obtain ⟨j, hj, e⟩ := List.getElem_of_mem hm
    exact hn j hj e
  unfold plI; rw [this]
set_option maxRecDepth 100000 in
theorem place_walk (s : ByteArray) (c : UInt8) (hs : s.size ≤ 64) (w : World) : Calls Tryz.prog 36 #[.string s, vb c] w fun e w' => e = .returned (.int .i64 (plI s.data.toList c)) ∧ w' = w := by
  have HS := Hid.of (Go.Lib.size_eq s)
  go_enter Tryz.func36, Tryz.ntmps36
  go_wp2
  go_loop [5] (fun v5 => ∃ i : Nat, v5 = .int .i64 (i : Int) ∧ i ≤ s.size ∧ Hid (∀ j, (hj : j < i) → (hl : j < s.data.toList.length) → s.data.toList[j] ≠ c)) (fun v5 => s.size - (intOf v5).toNat)
  case atStart => exact ⟨0, rfl, by omega, fun j hj => by omega⟩
  case round =>
    obtain ⟨i, rfl, hi, hI⟩ := hrel
    by_cases hlt : i < s.size
    · have hlt' : (i : Int) < (s.size : Int) := by omega
      have hil : i < s.data.toList.length := by rw [← HS.out]; exact hlt
      by_cases hc : s[i] = c
      · have hcc : ((s[i].toNat : Int) == (c.toNat : Int)) = true := by rw [hc]; simp
        have HF := Hid.of (plI_some hil (by rw [← sget' s i hlt]; exact hc) (fun j hj => hI.out j hj (by omega)))
        clear hc
        go_wp2
        go_ret
        rw [HF.out]
        exact ⟨rfl, rfl⟩
      · have hcc : ((s[i].toNat : Int) == (c.toNat : Int)) = false := by rw [u8_eq]; simpa using hc
        have HN := Hid.of (show ∀ j, (hj : j < i + 1) → (hl : j < s.data.toList.length) → s.data.toList[j] ≠ c from fun j hj hl => by
          by_cases e : j = i
          · subst e; rw [← sget' s j hlt]; exact hc
          · exact hI.out j (by omega) hl)
        clear hc
        go_wp2
        go_round
        case rel => exact ⟨i + 1, by go_num, by omega, HN⟩
        case measure => simp [intOf]; omega
    · have hlt' : ¬ (i : Int) < (s.size : Int) := by omega
      have HF := Hid.of (plI_none (t := s.data.toList) (c := c) (fun j hj => hI.out j (by have := HS.out; omega) hj))
      go_wp2
      go_ret
      rw [HF.out]
      exact ⟨rfl, rfl⟩
theorem plI_hv {c : UInt8} {i : Nat} (h : pl DT c = some i) : plI DT c = (i : Int) := by unfold plI; rw [h]
theorem plI_no {t : List UInt8} {c : UInt8} (h : pl t c = none) : plI t c = -1 := by unfold plI; rw [h]
end Go.Proofs.YtaobnnlcfefodaaGreatDoor
namespace TextNum
/-- the first k bits of a byte -/
def b8 (x : UInt8) (k : Nat) : List Nat := (List.range k).map fun t => x.toNat / 2 ^ (7 - t) % 2
def bt : List UInt8 → List Nat
  | [] => []
  | x :: r => b8 x 8 ++ bt r
theorem b8_succ (x : UInt8) (k : Nat) : b8 x (k + 1) = b8 x k ++ [x.toNat / 2 ^ (7 - k) % 2] := by simp [b8, List.range_succ]
theorem b8_length (x : UInt8) (k : Nat) : (b8 x k).length = k := by simp [b8]
theorem bt_append : ∀ a b, bt (a ++ b) = bt a ++ bt b
  | [], b => rfl
  | x :: r, b => by simp [bt, bt_append r b]
theorem bt_length : ∀ l, (bt l).length = 8 * l.length
  | [] => rfl
  | x :: r => by simp [bt, bt_length r, b8_length]; omega
theorem bt_snoc (l : List UInt8) (x : UInt8) : bt (l ++ [x]) = bt l ++ b8 x 8 := by rw [bt_append]; simp [bt]
theorem b8_two (x : UInt8) (k : Nat) : ∀ n ∈ b8 x k, n < 2 := by
  intro n hn
  obtain ⟨t, _, rfl⟩ := List.mem_map.1 hn
  exact Nat.mod_lt _ (by decide)
theorem bt_two : ∀ l, ∀ n ∈ bt l, n < 2
  | [], n, h => by cases h
  | x :: r, n, h => by
    rcases List.mem_append.1 h with h | h
    · exact b8_two x 8 n h
    · exact bt_two r n h
end TextNum
namespace Go.Proofs.YtaobnnlcfefodaaGreatDoor
open Go.RowKit TextNum

set_option maxRecDepth 100000 in
theorem Tryz.infoI : (Tryz.prog.info? 3).map (fun i => (i.zero, i.size, i.bytes)) = some (some (.int .i64 0), 1, 8) := by kernel_rfl
def ci (l : List Nat) : List Value := l.map fun (n : Nat) => Value.int .i64 (n : Int)
theorem ci_append (a b : List Nat) : ci (a ++ b) = ci a ++ ci b := by simp [ci]
theorem ci_get {l : List Nat} {i : Nat} (h : i < l.length) : (ci l)[i]? = some (.int .i64 (l[i] : Int)) := by simp [ci, h]
theorem ci_one (l : List Nat) : ∀ u ∈ ci l, u.oneCell' = true := by
  intro u hu
  obtain ⟨c, _, rfl⟩ := List.mem_map.1 hu
  rfl
/-- a list of ints of one's own -/
def OwnI (w : World) (B : Nat) (v : Value) (l : List Nat) : Prop := w.ownsRow B 3 1 v l.length (ci l)
theorem ownI_nil (w : World) (B : Nat) : OwnI w B (.slice none 0 0) [] := World.ownsRow_nil w B 3 1
theorem OwnI.len {w : World} {B : Nat} {v : Value} {l : List Nat} (h : OwnI w B v l) : ∃ a c, v = .slice a l.length c := by
  rcases h.2 with ⟨rfl, e⟩ | ⟨g, cap, cur, rfl, _⟩
  · exact ⟨none, 0, by rw [e]⟩
  · exact ⟨_, _, rfl⟩
theorem OwnI.below {w w' : World} {B : Nat} {v : Value} {l : List Nat} (h : OwnI w B v l) (k : Up w w') : OwnI w' B v l := by
  refine ⟨h.1, ?_⟩
  rcases h.2 with e | ⟨g, cap, cur, e, hbg, hg, r⟩
  · exact .inl e
  · have hlt : g < w.heap.size := by
      rcases Nat.lt_or_ge g w.heap.size with h1 | h1
      · exact h1
      · rw [Array.getElem?_eq_none h1] at hg; cases hg
    exact .inr ⟨g, cap, cur, e, hbg, by rw [k.block g hlt]; exact hg, r⟩
theorem OwnI.cells {w : World} {B : Nat} {v : Value} {l : List Nat} (h : OwnI w B v l) (h0 : l ≠ []) : ∃ g c, v = .slice (some ⟨g, 0, none⟩) l.length c ∧ l.length ≤ c ∧ g < w.heap.size ∧ ∀ i (hi : i < l.length), w.cell? ⟨g, i, none⟩ = some (.int .i64 (l[i] : Int)) := by
  rcases h.2 with ⟨rfl, e⟩ | ⟨g, cap, cur, rfl, hbg, hg, hnc, _⟩
  · exact absurd (List.eq_nil_of_length_eq_zero e) h0
  · refine ⟨g, cap, rfl, hnc, (World.ownsRow.lt h g rfl).2, fun i hi => ?_⟩
    have := World.ownsRow.cells h (g := g) rfl i _ (ci_get hi)
    rwa [add_plain, Nat.zero_add] at this
theorem wpList_appI {ops : Array Oper} {rest : List Oper} {o : Oper} {a : Act} {w : World} {t : TypeId} {Q : Exit → Act → World → Prop} (hgd : o.guard = none) (s x : Operand)
    (ho : o.op = .call { callee := .builtin .append, args := #[s, x], argTypes := #[74, 74] }) (B : Nat) (v : Value) (l : List Nat) (m : Nat) (hs : a.eval s = v) (hown : OwnI w B v l)
    (c : Nat) (hx : a.eval x = .slice (some ⟨w.heap.size, 0, none⟩) 1 c) (hn : l.length + 1 ≤ 17592186044416) (hB : B ≤ w.heap.size)
    (h : ∀ v' w', OwnI w' B v' (l ++ [m]) → Below B w w' → wpList Tryz.prog ops Q rest (a.put o.dst v') w') : wpList Tryz.prog ops Q (o :: rest) a (w.alloc (.cells (ci [m]).toArray t)) := by
  obtain ⟨i0, hi, hz0, hz1, hz2⟩ := info_parts Tryz.infoI
  refine wpList_append_own _ hgd s x 74 ho B 3 i0 (.int .i64 0) 1 8 Tryz.underlying74 hi hz0 hz1 hz2 rfl (by decide) v l.length (ci l) hs (OwnI.below hown ((Up.refl w).alloc _)) ⟨w.heap.size, 0, none⟩ 1 c (ci [m]) hx (by simp [ci]) (cells_new w t (ci [m])) (ci_one [m]) (by unfold maxLen; omega) (by omega) (by simp; omega) ?_
  intro v' w' h1 h2 _
  refine h v' w' ?_ (((Below.refl B w).alloc hB _).trans ((Below.refl B _).grown h2 (by simp; omega) (fun k hk => (World.ownsRow.lt hown k hk).1)))
  unfold OwnI
  rw [List.length_append, ci_append]
  exact h1

set_option maxRecDepth 100000 in
set_option maxHeartbeats 2000000 in
theorem bits_walk (v : Value) (l : List UInt8) (w : World) (hS : Sl w v l) (hl : l.length ≤ 1099511627776) :
    Calls Tryz.prog 32 #[v] w fun e w' => ∃ v', e = .returned v' ∧ OwnI w' w.heap.size v' (bt l) ∧ Up w w' := by
  obtain ⟨a, c, rfl, _, hS⟩ := hS
  have HT := Hid.of hS
  clear hS
  go_enter Tryz.func32, Tryz.ntmps32
  go_wp2
  go_loopw [3, 4] (fun v3 v4 wr => ∃ i : Nat, v4 = .int .i64 (i : Int) ∧ i ≤ l.length ∧ Hid (OwnI wr w.heap.size v3 (bt (l.take i)) ∧ Up w wr)) (fun _ v4 _ => l.length - (intOf v4).toNat)
  case atStart => exact ⟨0, rfl, by omega, ownI_nil _ _, Up.refl _⟩
  case round =>
    obtain ⟨i, rfl, hi, hI⟩ := hrel
    obtain ⟨wb, hwb⟩ : ∃ wb, wb = wr := ⟨_, rfl⟩
    subst hwb
    by_cases hlt : i < l.length
    · rcases HT.out with e | ⟨b, off, rfl, hb, hc⟩
      · subst e; simp at hlt
      · have HC := Hid.of (hc i hlt)
        have hlt' : (i : Int) < (l.length : Int) := by omega
        have HX := Hid.of (bt_snoc (l.take i) l[i])
        rw [← take_succ6 hlt] at HX
        have HL := Hid.of (show (bt (l.take i)).length ≤ 8796093022208 by rw [bt_length]; simp; omega)
        clear hc
        generalize l[i] = x at *
        have hx : x.toNat < 256 := x.toNat_lt
        go_wp2
        go_loopw [3, 5] (fun v3 v5 wr => ∃ k : Nat, v5 = .int .i64 (7 - (k : Int)) ∧ k ≤ 8 ∧ Hid (OwnI wr w.heap.size v3 (bt (l.take i) ++ b8 x k) ∧ Up w wr)) (fun _ v5 _ => (intOf v5 + 1).toNat)
        case atStart => exact ⟨0, rfl, by omega, by simpa [b8] using hI.out.1, hI.out.2⟩
        case round =>
          obtain ⟨k, rfl, hk, hI2⟩ := hrel
          by_cases hk8 : k < 8
          · have e1 : (0 : Int) ≤ 7 - (k : Int) := by omega
            have hcx := hI2.out.2.cell HC.out
            have HB8 := Hid.of (b8_succ x k)
            obtain ⟨y, hy⟩ : ∃ y : Nat, y = x.toNat / 2 ^ (7 - k) := ⟨_, rfl⟩
            have hs1 : (x.toNat : Int) / 2 ^ (7 - k) = (y : Int) := by rw [hy]; simp
            have hyl : y < 256 := by rw [hy]; exact Nat.lt_of_le_of_lt (Nat.div_le_self _ _) hx
            rw [← hy] at HB8
            clear hy
            have hs2 : (y : Int).tmod 2 = ((y % 2 : Nat) : Int) := by rw [Int.tmod_eq_emod_of_nonneg (by omega)]; omega
            have hb2 : y % 2 < 2 := Nat.mod_lt _ (by decide)
            generalize y % 2 = bb at *
            go_wp2_with (with_reducible show wpList _ _ _ ({ dst := _, op := Op.call { callee := Callee.builtin Builtin.append, args := _, argTypes := _ }, type := _, pos := _, after := _, guard := _ } :: _) _ _; refine Shut.out ?_)
            show wpList _ _ _ _ _ _
            refine wpList_appI rfl _ _ rfl w.heap.size _ (bt (l.take i) ++ b8 x k) bb rfl (by exact hI2.out.1) 1 rfl (by have := HL.out; simp [b8_length]; omega) hI2.out.2.size ?_
            intro v' w3 h3 k3
            have H3 := Hid.of (And.intro h3 (hI2.out.2.step (Nat.le_refl _) k3))
            clear h3 k3
            simp only [Act.put, List.setIfInBounds_toArray, List.set_cons_zero, List.set_cons_succ]
            go_wp2
            go_roundw
            case rel => exact ⟨k + 1, by go_num, by omega, by rw [HB8.out, ← List.append_assoc]; exact H3.out.1, H3.out.2⟩
            case measure => simp [intOf]; omega
          · obtain rfl : k = 8 := by omega
            have HE := Hid.of (show OwnI wr w.heap.size u3 (bt (l.take (i + 1))) by rw [HX.out]; exact hI2.out.1)
            go_wp2
            go_roundw
            case rel => exact ⟨i + 1, by go_num, by omega, HE.out, hI2.out.2⟩
            case measure => simp [intOf]; omega
    · obtain rfl : i = l.length := by omega
      have HE := Hid.of (show OwnI wb w.heap.size u3 (bt l) by have := hI.out.1; rwa [List.take_length] at this)
      go_wp2
      go_ret
      exact ⟨_, rfl, HE.out, hI.out.2⟩
end Go.Proofs.YtaobnnlcfefodaaGreatDoor
namespace TextNum
def bv6 (d : List Nat) : Nat := d.foldl (fun a b => 2 * a + b) 0
def grp : List Nat → List UInt8
  | a :: b :: c :: d :: e :: f :: r => lt (bv6 [a, b, c, d, e, f]) :: grp r
  | _ => []
theorem bv6_snoc (d : List Nat) (b : Nat) : bv6 (d ++ [b]) = 2 * bv6 d + b := by simp [bv6]
theorem bv6_lt : ∀ (n : Nat) (d : List Nat), d.length = n → (∀ b ∈ d, b < 2) → bv6 d < 2 ^ n := by
  intro n
  induction n with
  | zero => intro d h _; rw [List.eq_nil_of_length_eq_zero h]; decide
  | succ n ih =>
    intro d h hd
    rcases List.eq_nil_or_concat d with e | ⟨t, b, e⟩
    · subst e; simp at h
    · rw [List.concat_eq_append] at e
      subst e
      have h1 := ih t (by simpa using h) (fun x hx => hd x (by simp [hx]))
      have h2 := hd b (by simp)
      rw [bv6_snoc, Nat.pow_succ]
      omega
theorem grp_append : ∀ (a b : List Nat), a.length % 6 = 0 → grp (a ++ b) = grp a ++ grp b
  | [], b, _ => rfl
  | [_], b, h => by simp at h
  | [_, _], b, h => by simp at h
  | [_, _, _], b, h => by simp at h
  | [_, _, _, _], b, h => by simp at h
  | [_, _, _, _, _], b, h => by simp at h
  | x1 :: x2 :: x3 :: x4 :: x5 :: x6 :: r, b, h => by
    have := grp_append r b (by simp at h; omega)
    simp only [List.cons_append, grp, this]
theorem grp_length : ∀ (a : List Nat), (grp a).length = a.length / 6
  | [] => by simp [grp]
  | [_] => by simp [grp]
  | [_, _] => by simp [grp]
  | [_, _, _] => by simp [grp]
  | [_, _, _, _] => by simp [grp]
  | [_, _, _, _, _] => by simp [grp]
  | x1 :: x2 :: x3 :: x4 :: x5 :: x6 :: r => by simp only [grp, List.length_cons, grp_length r]; omega
theorem grp_six (d : List Nat) (h : d.length = 6) : grp d = [lt (bv6 d)] := by
  match d, h with
  | [a, b, c, e, f, g], _ => rfl
theorem b8_8 (x : UInt8) : b8 x 8 = [x.toNat / 128 % 2, x.toNat / 64 % 2, x.toNat / 32 % 2, x.toNat / 16 % 2, x.toNat / 8 % 2, x.toNat / 4 % 2, x.toNat / 2 % 2, x.toNat / 1 % 2] := rfl
theorem v1 {x : Nat} (hx : x < 256) : bv6 [x / 128 % 2, x / 64 % 2, x / 32 % 2, x / 16 % 2, x / 8 % 2, x / 4 % 2] = x / 4 := by
  simp only [bv6, List.foldl_cons, List.foldl_nil]; omega
theorem v2 {x y : Nat} (hy : y < 256) : bv6 [x / 2 % 2, x / 1 % 2, y / 128 % 2, y / 64 % 2, y / 32 % 2, y / 16 % 2] = x % 4 * 16 + y / 16 := by
  simp only [bv6, List.foldl_cons, List.foldl_nil]; omega
theorem v2z {x : Nat} : bv6 [x / 2 % 2, x / 1 % 2, 0, 0, 0, 0] = x % 4 * 16 := by
  simp only [bv6, List.foldl_cons, List.foldl_nil]; omega
theorem v3 {y z : Nat} (hz : z < 256) : bv6 [y / 8 % 2, y / 4 % 2, y / 2 % 2, y / 1 % 2, z / 128 % 2, z / 64 % 2] = y % 16 * 4 + z / 64 := by
  simp only [bv6, List.foldl_cons, List.foldl_nil]; omega
theorem v3z {y : Nat} : bv6 [y / 8 % 2, y / 4 % 2, y / 2 % 2, y / 1 % 2, 0, 0] = y % 16 * 4 := by
  simp only [bv6, List.foldl_cons, List.foldl_nil]; omega
theorem v4 {z : Nat} : bv6 [z / 32 % 2, z / 16 % 2, z / 8 % 2, z / 4 % 2, z / 2 % 2, z / 1 % 2] = z % 64 := by
  simp only [bv6, List.foldl_cons, List.foldl_nil]; omega
theorem enc_eq : ∀ (l : List UInt8) (k q : Nat), ((l.length % 3 = 0 ∧ k = 0 ∧ q = 0) ∨ (l.length % 3 = 1 ∧ k = 4 ∧ q = 2) ∨ (l.length % 3 = 2 ∧ k = 2 ∧ q = 1)) → grp (bt l ++ List.replicate k 0) ++ List.replicate q 61 = b64E l
  | [], k, q, h => by
    obtain ⟨rfl, rfl⟩ : k = 0 ∧ q = 0 := by simp at h; exact h
    rfl
  | [x], k, q, h => by
    obtain ⟨rfl, rfl⟩ : k = 4 ∧ q = 2 := by simp at h; exact h
    have hx := x.toNat_lt
    show grp (b8 x 8 ++ [] ++ [0, 0, 0, 0]) ++ [61, 61] = g1 x
    rw [b8_8]
    simp only [List.cons_append, List.nil_append, grp]
    rw [v1 hx, v2z]
    rfl
  | [x, y], k, q, h => by
    obtain ⟨rfl, rfl⟩ : k = 2 ∧ q = 1 := by simp at h; exact h
    have hx := x.toNat_lt
    have hy := y.toNat_lt
    show grp (b8 x 8 ++ (b8 y 8 ++ []) ++ [0, 0]) ++ [61] = g2 x y
    rw [b8_8, b8_8]
    simp only [List.cons_append, List.nil_append, grp]
    rw [v1 hx, v2 hy, v3z]
    rfl
  | x :: y :: z :: r, k, q, h => by
    have ih := enc_eq r k q (by simp only [List.length_cons] at h; omega)
    have hx := x.toNat_lt
    have hy := y.toNat_lt
    have hz := z.toNat_lt
    show grp (b8 x 8 ++ (b8 y 8 ++ (b8 z 8 ++ bt r)) ++ List.replicate k 0) ++ List.replicate q 61 = g3 x y z ++ b64E r
    rw [b8_8, b8_8, b8_8]
    simp only [List.cons_append, List.nil_append, grp] at ih ⊢
    rw [ih]
    rw [v1 hx, v2 hy, v3 hz, v4]
    rfl
end TextNum
namespace Go.Proofs.YtaobnnlcfefodaaGreatDoor
open Go.RowKit TextNum

/-- the letters' text -/
def LS : ByteArray := ⟨#[65, 66, 67, 68, 69, 70, 71, 72, 73, 74, 75, 76, 77, 78, 79, 80, 81, 82, 83, 84, 85, 86, 87, 88, 89, 90, 97, 98, 99, 100, 101, 102, 103, 104, 105, 106, 107, 108, 109, 110, 111, 112, 113, 114, 115, 116, 117, 118, 119, 120, 121, 122, 48, 49, 50, 51, 52, 53, 54, 55, 56, 57, 43, 47]⟩
theorem LS_get (k : Nat) (h : k < 64) : LS[k]'h = lt k := (by decide : ∀ k : Fin 64, LS[k.1]'(k.2) = lt k.1) ⟨k, h⟩
theorem own_sl_up {w w' : World} {B : Nat} {v : Value} {l : List UInt8} (h : Own w B v l) (k : Up w w') : Sl w' v l := h.sl.up k
theorem rep_succ (k : Nat) : List.replicate (k + 1) 0 = List.replicate k 0 ++ [0] := by rw [List.replicate_succ']
theorem rep61 (k : Nat) : List.replicate (k + 1) (61 : UInt8) = List.replicate k 61 ++ [61] := by rw [List.replicate_succ']

set_option linter.unusedSimpArgs false in
set_option maxRecDepth 100000 in
set_option maxHeartbeats 4000000 in
theorem REncode64_walk (v : Value) (l : List UInt8) (w : World) (hS : Sl w v l) (hl : l.length ≤ 1099511627776) :
    Calls Tryz.prog 19 #[v] w fun e w' => e = .returned (vs (b64E l)) ∧ Up w w' := by
  obtain ⟨a, c, ev, _, _⟩ := id hS
  have HS := Hid.of hS
  clear hS
  subst ev
  go_enter Tryz.func19, Tryz.ntmps19
  go_wp2_with fail
  refine (bits_walk _ l w HS.out hl).mono ?_
  rintro e w1 ⟨v1, rfl, h1, u1⟩
  have H1 := Hid.of (And.intro h1 u1)
  clear h1 u1
  dsimp only
  go_wp2
  go_loopw [3] (fun v3 wr => ∃ k n : Nat, slen v3 = n ∧ n = 8 * l.length + k ∧ k ≤ 4 ∧ (l.length % 3 = 0 → k = 0) ∧ (l.length % 3 = 2 → k ≤ 2) ∧ Hid (OwnI wr w.heap.size v3 (bt l ++ List.replicate k 0) ∧ Up w wr)) (fun v3 _ => 8 * l.length + 4 - slen v3)
  case atStart =>
    refine ⟨0, 8 * l.length, ?_, by omega, by omega, fun _ => rfl, fun _ => by omega, ?_⟩
    · obtain ⟨a3, c3, e⟩ := H1.out.1.len
      rw [e]; exact bt_length l
    · exact Hid.of (by simpa using H1.out)
  case round =>
    obtain ⟨k, n, hsl, hn, hk4, hk0, hk2, hI⟩ := hrel
    obtain ⟨a3, c3, ev⟩ := hI.out.1.len
    have hlen : (bt l ++ List.replicate k 0).length = n := by rw [List.length_append, bt_length, List.length_replicate, hn]
    rw [hlen] at ev
    subst ev
    clear hsl
    by_cases h6 : n % 6 = 0
    · have d6 : ((n : Int) % 6) = 0 := by omega
      have hP2 : ∀ b ∈ bt l ++ List.replicate k 0, b < 2 := by
        intro b hb
        rcases List.mem_append.1 hb with h | h
        · exact bt_two l b h
        · rw [(List.mem_replicate.1 h).2]; decide
      have hkk : (l.length % 3 = 0 ∧ k = 0) ∨ (l.length % 3 = 1 ∧ k = 4) ∨ (l.length % 3 = 2 ∧ k = 2) := by omega
      obtain ⟨P, hP⟩ : ∃ P, P = bt l ++ List.replicate k 0 := ⟨_, rfl⟩
      rw [← hP] at hlen hP2 hI
      have HPE := Hid.of hP
      have HKK := Hid.of hkk
      have HP2 := Hid.of hP2
      have HPL := Hid.of hlen
      obtain ⟨wb, hwb⟩ : ∃ wb, wb = wr := ⟨_, rfl⟩
      subst hwb
      clear hP hP2 hlen hkk hk0 hk2
      have hnb : n ≤ 8796093022212 := by omega
      have HNN := Hid.of hn
      clear hn
      go_wp2
      clear d6
      go_loopw [4, 5] (fun v4 v5 wr => ∃ i : Nat, v5 = .int .i64 (i : Int) ∧ i ≤ n ∧ i % 6 = 0 ∧ Hid (Own wr wb.heap.size v4 (grp (P.take i)) ∧ Up wb wr)) (fun _ v5 _ => n - (intOf v5).toNat)
      case atStart => exact ⟨0, rfl, by omega, rfl, own_nil _ _, Up.refl _⟩
      case round =>
        obtain ⟨i, rfl, hi, hi6, hI2⟩ := hrel
        obtain ⟨wc, hwc⟩ : ∃ wc, wc = wr := ⟨_, rfl⟩
        subst hwc
        by_cases hlt : i < n
        · have hlt' : (i : Int) < (n : Int) := by omega
          have hi5 : i + 6 ≤ n := by omega
          obtain ⟨g, c', ev, hcap, hg, hcell⟩ := hI.out.1.cells (fun e => by have := HPL.out; rw [e] at this; simp at this; omega)
          rw [HPL.out] at ev
          cases ev
          have HC := Hid.of hcell
          clear hcell
          go_wp2
          go_loop [6, 7] (fun v6 v7 => ∃ j : Nat, v7 = .int .i64 (j : Int) ∧ j ≤ 6 ∧ v6 = .int .i64 (bv6 ((P.drop i).take j) : Int)) (fun _ v7 => 6 - (intOf v7).toNat)
          case atStart => exact ⟨0, rfl, by omega, rfl⟩
          case round =>
            obtain ⟨j, rfl, hj, rfl⟩ := hrel
            by_cases hj6 : j < 6
            · have hj6' : (j : Int) < 6 := by omega
              have hij : i + j < P.length := by rw [HPL.out]; omega
              have hcx := hI2.out.2.cell (HC.out (i + j) hij)
              have hbt : P[i + j] < 2 := HP2.out _ (List.getElem_mem hij)
              have hbv : bv6 ((P.drop i).take j) < 64 := Nat.lt_of_lt_of_le (bv6_lt j _ (by rw [List.length_take, List.length_drop, HPL.out]; omega) (fun b hb => HP2.out b (List.mem_of_mem_drop (List.mem_of_mem_take hb)))) (Nat.pow_le_pow_right (by decide) (by omega) : 2 ^ j ≤ 2 ^ 6)
              have HBV := Hid.of (show bv6 ((P.drop i).take (j + 1)) = 2 * bv6 ((P.drop i).take j) + P[i + j] by
                rw [← bv6_snoc]
                congr 1
                have hjl : j < (P.drop i).length := by rw [List.length_drop]; omega
                rw [List.take_succ_eq_append_getElem hjl, List.getElem_drop])
              generalize bv6 ((P.drop i).take j) = nn at *
              generalize P[i + j] = bb at *
              go_wp2
              go_round
              case rel => exact ⟨j + 1, by go_num, by omega, by rw [HBV.out]; go_num⟩
              case measure => simp [intOf]; omega
            · obtain rfl : j = 6 := by omega
              have hd6 : ((P.drop i).take 6).length = 6 := by rw [List.length_take, List.length_drop, HPL.out]; omega
              have hbv : bv6 ((P.drop i).take 6) < 64 := bv6_lt 6 _ hd6 (fun b hb => HP2.out b (List.mem_of_mem_drop (List.mem_of_mem_take hb)))
              have HG := Hid.of (show grp (P.take (i + 6)) = grp (P.take i) ++ [lt (bv6 ((P.drop i).take 6))] by
                rw [List.take_add, grp_append _ _ (by rw [List.length_take, HPL.out]; omega), grp_six _ hd6])
              have HL := Hid.of (show (grp (P.take i)).length + 1 ≤ 140737488355328 by rw [grp_length, List.length_take]; omega)
              clear hd6
              have g1 := LS_get _ hbv
              unfold LS at g1
              generalize bv6 ((P.drop i).take 6) = nn at *
              go_wp2_with (with_reducible show wpList _ _ _ ({ dst := _, op := Op.call { callee := Callee.builtin Builtin.append, args := _, argTypes := _ }, type := _, pos := _, after := _, guard := _ } :: _) _ _; refine Shut.out ?_)
              show wpList _ _ _ _ _ _
              refine wpList_app1 rfl _ _ rfl wb.heap.size _ (grp (P.take i)) [lt nn] rfl (by exact hI2.out.1) 1 rfl (by have := HL.out; simpa using this) hI2.out.2.size ?_
              intro v' w3 h3 k3
              have H3 := Hid.of (And.intro h3 (hI2.out.2.step (Nat.le_refl _) k3))
              clear h3 k3
              simp only [Act.put, List.setIfInBounds_toArray, List.set_cons_zero, List.set_cons_succ]
              go_wp2
              go_roundw
              case rel => exact ⟨i + 6, by go_num, by omega, by omega, by rw [HG.out]; exact H3.out.1, H3.out.2⟩
              case measure => simp [intOf]; omega
        · obtain rfl : i = n := by omega
          have hlt' : ¬ (i : Int) < (i : Int) := by omega
          have hmt : grp (P.take i) = grp P := by rw [List.take_of_length_le (by rw [HPL.out]; exact Nat.le_refl _)]
          have hml : (grp P).length = i / 6 := by rw [grp_length, HPL.out]
          rw [hmt] at hI2
          have HML := Hid.of hml
          clear hmt hml
          go_wp2
          go_loopw [4] (fun v4 wr => ∃ q m : Nat, slen v4 = m ∧ m = i / 6 + q ∧ q ≤ 2 ∧ (l.length % 3 = 0 → q = 0) ∧ (l.length % 3 = 2 → q ≤ 1) ∧ Hid (Own wr wb.heap.size v4 (grp P ++ List.replicate q 61) ∧ Up wb wr)) (fun v4 _ => i / 6 + 2 - slen v4)
          case atStart =>
            refine ⟨0, i / 6, ?_, by omega, by omega, fun _ => rfl, fun _ => by omega, ?_⟩
            · obtain ⟨a3, c3, e⟩ := hI2.out.1.len
              rw [e]; exact HML.out
            · exact Hid.of (by simpa using hI2.out)
          case round =>
            obtain ⟨q, m, hsl, hm, hq2, hq0, hq1, hI3⟩ := hrel
            obtain ⟨a4, c4, ev⟩ := hI3.out.1.len
            rw [List.length_append, HML.out, List.length_replicate, ← hm] at ev
            subst ev
            clear hsl
            have HM := Hid.of hm
            have hnn := HNN.out
            by_cases h4 : m % 4 = 0
            · have d4 : ((m : Int) % 4) = 0 := by omega
              have HE := Hid.of (enc_eq l k q (by have := HKK.out; omega))
              clear hm hnn
              rw [← HPE.out] at HE
              have hcv := conv_sl (Own.sl hI3.out.1)
              rw [HE.out] at hcv
              go_wp2
              go_ret
              exact ⟨rfl, (hI.out.2.trans hI3.out.2)⟩
            · have d4 : ((m : Int) % 4 != 0) = true := by simp; omega
              have HR := Hid.of (rep61 q)
              have HKN := Hid.of (show q + 1 ≤ 2 ∧ (l.length % 3 = 0 → q + 1 = 0) ∧ (l.length % 3 = 2 → q + 1 ≤ 1) ∧ m ≤ 1466015503704 by have := HKK.out; omega)
              have hmb := HKN.out.2.2.2
              clear hm hnn
              go_wp2_with (with_reducible show wpList _ _ _ ({ dst := _, op := Op.call { callee := Callee.builtin Builtin.append, args := _, argTypes := _ }, type := _, pos := _, after := _, guard := _ } :: _) _ _; refine Shut.out ?_)
              show wpList _ _ _ _ _ _
              refine wpList_app1 rfl _ _ rfl wb.heap.size _ (grp P ++ List.replicate q 61) [61] rfl (by exact hI3.out.1) 1 rfl (by have := HM.out; simp [HML.out]; omega) hI3.out.2.size ?_
              intro v' w3 h3 k3
              have H3 := Hid.of (And.intro h3 (hI3.out.2.step (Nat.le_refl _) k3))
              clear h3 k3
              simp only [Act.put, List.setIfInBounds_toArray, List.set_cons_zero, List.set_cons_succ]
              go_wp2
              go_roundw
              case rel =>
                refine ⟨q + 1, m + 1, ?_, by have := HM.out; omega, HKN.out.1, HKN.out.2.1, HKN.out.2.2.1, by rw [HR.out, ← List.append_assoc]; exact H3.out.1, H3.out.2⟩
                obtain ⟨_, _, e⟩ := H3.out.1.len
                rw [e]; have := HM.out; simp [slen, HML.out]; omega
              case measure =>
                obtain ⟨_, _, e⟩ := H3.out.1.len
                rw [e]
                have e1 := HM.out
                have e2 := HKN.out.1
                have e3 : (grp P ++ List.replicate q 61 ++ [61]).length = m + 1 := by rw [List.length_append, List.length_append, HML.out, List.length_replicate, ← e1]; rfl
                show i / 6 + 2 - (grp P ++ List.replicate q 61 ++ [61]).length < i / 6 + 2 - m
                rw [e3]
                omega
    · have d6 : ((n : Int) % 6 != 0) = true := by simp; omega
      have HR := Hid.of (rep_succ k)
      have HNN := Hid.of hn
      have HKN := Hid.of (show k + 1 ≤ 4 ∧ (l.length % 3 = 0 → k + 1 = 0) ∧ (l.length % 3 = 2 → k + 1 ≤ 2) ∧ n + 1 ≤ 17592186044416 by omega)
      have hnb := HKN.out.2.2.2
      clear hn
      go_wp2_with (with_reducible show wpList _ _ _ ({ dst := _, op := Op.call { callee := Callee.builtin Builtin.append, args := _, argTypes := _ }, type := _, pos := _, after := _, guard := _ } :: _) _ _; refine Shut.out ?_)
      show wpList _ _ _ _ _ _
      refine wpList_appI rfl _ _ rfl w.heap.size _ (bt l ++ List.replicate k 0) 0 rfl (by rw [← hlen] at *; exact hI.out.1) 1 rfl (by rw [hlen]; omega) hI.out.2.size ?_
      intro v' w3 h3 k3
      have H3 := Hid.of (And.intro h3 (hI.out.2.step (Nat.le_refl _) k3))
      clear h3 k3
      simp only [Act.put, List.setIfInBounds_toArray, List.set_cons_zero, List.set_cons_succ]
      go_wp2
      go_roundw
      case rel =>
        refine ⟨k + 1, n + 1, ?_, by have := HNN.out; omega, HKN.out.1, HKN.out.2.1, HKN.out.2.2.1, by rw [HR.out, ← List.append_assoc]; exact H3.out.1, H3.out.2⟩
        obtain ⟨_, _, e⟩ := H3.out.1.len
        rw [e]; show (bt l ++ List.replicate k 0 ++ [0]).length = n + 1
        rw [List.length_append, hlen]; rfl
      case measure =>
        obtain ⟨_, _, e⟩ := H3.out.1.len
        rw [e]; show 8 * l.length + 4 - (bt l ++ List.replicate k 0 ++ [0]).length < 8 * l.length + 4 - n
        rw [List.length_append, hlen]
        have := HNN.out; have := HKN.out.1
        simp; omega
end Go.Proofs.YtaobnnlcfefodaaGreatDoor
namespace TextNum
/-- what the reference collects -/
def cl : Nat → Nat → List UInt8 → List UInt8
  | _, _, [] => []
  | h, n, c :: r => match pl LT c with
    | none => cl h n r
    | some v => if 8 ≤ h + 6 then UInt8.ofNat ((n % 256 * 64 + v) / 2 ^ (h + 6 - 8)) :: cl (h + 6 - 8) (n % 256 * 64 + v) r else cl (h + 6) (n % 256 * 64 + v) r
theorem cl_no {h n : Nat} {c : UInt8} {r : List UInt8} (hp : pl LT c = none) : cl h n (c :: r) = cl h n r := by simp only [cl]; rw [hp]
theorem cl_one {h n v : Nat} {c : UInt8} {r : List UInt8} (hp : pl LT c = some v) (hh : ¬ 8 ≤ h + 6) : cl h n (c :: r) = cl (h + 6) (n % 256 * 64 + v) r := by
  simp only [cl]; rw [hp]; simp only; rw [if_neg hh]
theorem cl_two {h n v : Nat} {c : UInt8} {r : List UInt8} (hp : pl LT c = some v) (hh : 8 ≤ h + 6) : cl h n (c :: r) = UInt8.ofNat ((n % 256 * 64 + v) / 2 ^ (h + 6 - 8)) :: cl (h + 6 - 8) (n % 256 * 64 + v) r := by
  simp only [cl]; rw [hp]; simp only; rw [if_pos hh]
theorem of_mod {m : Nat} {x : UInt8} (h : m % 256 = x.toNat) : UInt8.ofNat m = x := by
  apply UInt8.toNat_inj.1
  rw [UInt8.toNat_ofNat']
  exact h
theorem cl_enc : ∀ (l : List UInt8) (n : Nat), cl 0 n (b64E l) = l
  | [], n => rfl
  | [x], n => by
    have hx := x.toNat_lt
    show cl 0 n [lt (x.toNat / 4), lt (x.toNat % 4 * 16), 61, 61] = [x]
    rw [cl_one (lt_pl _ (by omega)) (by decide), cl_two (lt_pl _ (by omega)) (by decide), cl_no pl_61, cl_no pl_61]
    simp only [cl, Nat.reduceAdd, Nat.reduceSub, Nat.reducePow]
    rw [of_mod (x := x) (by omega)]
  | [x, y], n => by
    have hx := x.toNat_lt
    have hy := y.toNat_lt
    show cl 0 n [lt (x.toNat / 4), lt (x.toNat % 4 * 16 + y.toNat / 16), lt (y.toNat % 16 * 4), 61] = [x, y]
    rw [cl_one (lt_pl _ (by omega)) (by decide), cl_two (lt_pl _ (by omega)) (by decide), cl_two (lt_pl _ (by omega)) (by decide), cl_no pl_61]
    simp only [cl, Nat.reduceAdd, Nat.reduceSub, Nat.reducePow]
    rw [of_mod (x := x) (by omega), of_mod (x := y) (by omega)]
  | x :: y :: z :: r, n => by
    have hx := x.toNat_lt
    have hy := y.toNat_lt
    have hz := z.toNat_lt
    show cl 0 n (lt (x.toNat / 4) :: lt (x.toNat % 4 * 16 + y.toNat / 16) :: lt (y.toNat % 16 * 4 + z.toNat / 64) :: lt (z.toNat % 64) :: b64E r) = x :: y :: z :: r
    rw [cl_one (lt_pl _ (by omega)) (by decide), cl_two (lt_pl _ (by omega)) (by decide), cl_two (lt_pl _ (by omega)) (by decide), cl_two (lt_pl _ (by omega)) (by decide)]
    simp only [Nat.reduceAdd, Nat.reduceSub, Nat.reducePow]
    rw [cl_enc r, of_mod (x := x) (by omega), of_mod (x := y) (by omega), of_mod (x := z) (by omega)]
theorem b64_cl (s : List UInt8) : b64D s = if b64E (cl 0 0 s) = s then some (cl 0 0 s) else none := by
  cases hd : b64D s with
  | some x =>
    have hs := b64_once s x hd
    have hc : cl 0 0 s = x := by rw [← hs]; exact cl_enc x 0
    rw [hc, if_pos hs]
  | none =>
    split
    · rename_i h
      rw [← h, b64_back] at hd; cases hd
    · rfl
end TextNum
namespace Go.Proofs.YtaobnnlcfefodaaGreatDoor
open Go.RowKit TextNum
theorem plL_hv {c : UInt8} {i : Nat} (h : pl TextNum.LT c = some i) : plI TextNum.LT c = (i : Int) := by unfold plI; rw [h]
set_option maxRecDepth 100000 in
set_option maxHeartbeats 2000000 in
theorem RDecode64_walk (s : ByteArray) (w : World) :
    Calls Tryz.prog 26 #[.string s] w fun e w' => ∃ v, e = .returned (.tuple #[v, .int .i64 (b64R s.data.toList).2]) ∧ Own w' w.heap.size v (b64R s.data.toList).1 ∧ Up w w' := by
  have HS := Hid.of (Go.Lib.size_eq s)
  go_enter Tryz.func26, Tryz.ntmps26
  by_cases h1 : 1048576 < s.size
  · have d1 : (1048576 : Int) < (s.size : Int) := by omega
    go_wp2
    go_ret2
    rw [b64R_long (by rw [← HS.out]; exact h1)]
    exact ⟨_, rfl, own_nil _ _, Up.refl _⟩
  · have d1 : ¬ (1048576 : Int) < (s.size : Int) := by omega
    have hle : s.size ≤ 1048576 := by omega
    have HN := Hid.of (show ¬ 1048576 < s.data.toList.length by rw [← HS.out]; exact h1)
    have HU := Hid.of (b64_cl s.data.toList)
    clear h1
    go_wp2
    go_loopw [4, 5, 6, 7] (fun v4 v5 v6 v7 wr => ∃ (i h n : Nat) (out : List UInt8), v7 = .int .i64 (i : Int) ∧ i ≤ s.size ∧ v5 = .int .i64 (h : Int) ∧ h < 8 ∧ v6 = .int .i64 (n : Int) ∧ n < 16384 ∧ Hid (Own wr w.heap.size v4 out ∧ Up w wr ∧ out.length ≤ i ∧ cl 0 0 s.data.toList = out ++ cl h n (s.data.toList.drop i))) (fun _ _ _ v7 _ => s.size - (intOf v7).toNat)
    case atStart => exact ⟨0, 0, 0, [], rfl, by omega, rfl, by omega, rfl, by omega, own_nil _ _, Up.refl _, Nat.zero_le _, by simp⟩
    case round =>
      obtain ⟨i, h, n, out, rfl, hi, rfl, hh, rfl, hnl, hI⟩ := hrel
      by_cases hlt : i < s.size
      · have hlt' : (i : Int) < (s.size : Int) := by omega
        have hd : s.data.toList.drop i = s[i] :: s.data.toList.drop (i + 1) := by
          rw [sget' s i hlt]; exact List.drop_eq_getElem_cons (by rw [← HS.out]; exact hlt)
        have HD := Hid.of hd
        clear hd
        go_wp2_with fail
        refine (place_walk LS s[i] (by decide) wr).mono ?_
        rintro e w2 ⟨rfl, hw⟩
        obtain rfl := hw.symm
        rw [show LS.data.toList = TextNum.LT from rfl]
        dsimp only
        cases hp : pl TextNum.LT s[i] with
        | none =>
          have HF := Hid.of (show cl 0 0 s.data.toList = out ++ cl h n (s.data.toList.drop (i + 1)) by rw [hI.out.2.2.2, HD.out, cl_no hp])
          rw [plI_no hp]
          clear hp
          go_wp2
          go_roundw
          case rel => exact ⟨i + 1, h, n, out, by go_num, by omega, rfl, by omega, rfl, by omega, hI.out.1, hI.out.2.1, by have := hI.out.2.2.1; omega, HF.out⟩
          case measure => simp [intOf]; omega
        | some v =>
          have hv := (pl_lt' hp).2
          rw [plL_hv hp]
          have e0 : decide ((v : Int) < 0) = false := by simp
          have e0' : ¬ (v : Int) < 0 := by omega
          obtain ⟨n', hn'⟩ : ∃ n', n' = n % 256 * 64 + v := ⟨_, rfl⟩
          have hn1 : (n : Int) % 256 * 64 + (v : Int) = (n' : Int) := by omega
          have hnb : n' < 16384 := by omega
          by_cases h8 : 8 ≤ h + 6
          · obtain ⟨h6, hh6⟩ : ∃ h6, h6 = h + 6 := ⟨_, rfl⟩
            obtain ⟨h', hh'⟩ : ∃ h', h' = h + 6 - 8 := ⟨_, rfl⟩
            have k1 : (h : Int) + 6 = (h6 : Int) := by omega
            have k2 : (h6 : Int) - 8 = (h' : Int) := by omega
            have k3 : (8 : Int) ≤ (h6 : Int) := by omega
            have k4 : h' < 6 := by omega
            have hcl := cl_two (r := s.data.toList.drop (i + 1)) (n := n) hp h8
            rw [← hn', ← hh'] at hcl
            obtain ⟨y, hy⟩ : ∃ y, y = n' / 2 ^ h' := ⟨_, rfl⟩
            have k5 : (n' : Int) / 2 ^ h' = (y : Int) := by rw [hy]; simp
            have k6 : y < 16384 := by rw [hy]; exact Nat.lt_of_le_of_lt (Nat.div_le_self _ _) hnb
            rw [← hy] at hcl
            obtain ⟨z, hz⟩ : ∃ z : UInt8, z = UInt8.ofNat y := ⟨_, rfl⟩
            have k7 : (y : Int) % 256 = (z.toNat : Int) := by rw [hz, UInt8.toNat_ofNat']; omega
            have k8 : IntKind.u8.wrap (y : Int) = (z.toNat : Int) := by rw [IntKind.wrap_u8]; exact k7
            have k9 : z.toNat < 256 := z.toNat_lt
            rw [← hz] at hcl
            have HF := Hid.of (show cl 0 0 s.data.toList = out ++ [z] ++ cl h' n' (s.data.toList.drop (i + 1)) by rw [hI.out.2.2.2, HD.out, hcl]; simp)
            clear hp hn' hcl hh6 hh' hy hz h8
            go_wp2_with (with_reducible show wpList _ _ _ ({ dst := _, op := Op.call { callee := Callee.builtin Builtin.append, args := _, argTypes := _ }, type := _, pos := _, after := _, guard := _ } :: _) _ _; refine Shut.out ?_)
            show wpList _ _ _ _ _ _
            refine wpList_app1 rfl _ _ rfl w.heap.size _ out [z] rfl (by exact hI.out.1) 1 rfl (by have := hI.out.2.2.1; simp; omega) hI.out.2.1.size ?_
            intro v' w3 h3 b3
            have H3 := Hid.of (And.intro h3 (hI.out.2.1.step (Nat.le_refl _) b3))
            clear h3 b3
            simp only [Act.put, List.setIfInBounds_toArray, List.set_cons_zero, List.set_cons_succ]
            go_wp2
            go_roundw
            case rel => exact ⟨i + 1, h', n', out ++ [z], by go_num, by omega, rfl, by omega, rfl, by omega, H3.out.1, H3.out.2, by have := hI.out.2.2.1; simp; omega, HF.out⟩
            case measure => simp [intOf]; omega
          · have k3 : ¬ (8 : Int) ≤ (h : Int) + 6 := by omega
            have hcl := cl_one (r := s.data.toList.drop (i + 1)) (n := n) hp h8
            rw [← hn'] at hcl
            have HF := Hid.of (show cl 0 0 s.data.toList = out ++ cl (h + 6) n' (s.data.toList.drop (i + 1)) by rw [hI.out.2.2.2, HD.out, hcl])
            clear hp hn' hcl
            go_wp2
            go_roundw
            case rel => exact ⟨i + 1, h + 6, n', out, by go_num, by omega, by go_num, by omega, rfl, by omega, hI.out.1, hI.out.2.1, by have := hI.out.2.2.1; omega, HF.out⟩
            case measure => simp [intOf]; omega
      · have hlt' : ¬ (i : Int) < (s.size : Int) := by omega
        have hr : cl 0 0 s.data.toList = out := by rw [hI.out.2.2.2, List.drop_eq_nil_of_le (by rw [← HS.out]; omega)]; simp [cl]
        have hq := HU.out
        rw [hr] at hq
        have HQ := Hid.of hq
        clear hr hq
        obtain ⟨a4, c4, ev⟩ := hI.out.1.len
        subst ev
        go_wp2_with fail
        refine (REncode64_walk _ out _ (by exact hI.out.1.sl) (by have := hI.out.2.2.1; omega)).mono ?_
        rintro e w2 ⟨rfl, u2⟩
        have H2 := Hid.of (And.intro (hI.out.1.below u2) (hI.out.2.1.trans u2))
        clear u2
        by_cases he : b64E out = s.data.toList
        · have HF := Hid.of (b64R_some HN.out (show b64D s.data.toList = some out by rw [HQ.out, if_pos he]))
          rw [show vs (b64E out) = .string s by rw [he]]
          clear he
          dsimp only
          go_wp2
          go_ret2
          rw [HF.out]
          exact ⟨_, rfl, H2.out.1, H2.out.2⟩
        · have HF := Hid.of (b64R_none HN.out (show b64D s.data.toList = none by rw [HQ.out, if_neg he]))
          have hne : ((⟨(b64E out).toArray⟩ : ByteArray).toList == s.toList) = false := by
            rw [Go.Lib.toList_data, Go.Lib.toList_data]
            simpa using he
          rw [show vs (b64E out) = .string ⟨(b64E out).toArray⟩ from rfl]
          generalize (⟨(b64E out).toArray⟩ : ByteArray) = qq at *
          clear he
          dsimp only
          go_wp2
          go_ret2
          rw [HF.out]
          exact ⟨_, rfl, own_nil _ _, H2.out.2⟩
end Go.Proofs.YtaobnnlcfefodaaGreatDoor
