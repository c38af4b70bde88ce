import Derived.Test.YtnciglpdjpckiaaGreatDoorBd
import Derived.Test.YtnciglpdjpckiaaGreatDoorKF
import Derived.Test.YtnciglpdjpckiaaGreatDoorKB
import Derived.Test.YtnciglpdjpckiaaGreatDoorKA
import Derived.Test.YtnciglpdjpckiaaGreatDoorRe
namespace Go.Proofs.YtnciglpdjpckiaaGreatDoor
open Go.RowKit TextNum

theorem take_succ6 {l : List UInt8} {i : Nat} (h : i < l.length) : l.take (i + 1) = l.take i ++ [l[i]] := by simp
def slen : Value → Nat
  | .slice _ n _ => n
  | _ => 0
/-- the place of a byte, or -1 -/
def plI (t : List UInt8) (c : UInt8) : Int := match pl t c with
  | some i => (i : Int)
  | none => -1
theorem plI_some {t : List UInt8} {c : UInt8} {i : Nat} (h : i < t.length) (hc : t[i] = c) (hn : ∀ j, (hj : j < i) → t[j] ≠ c) : plI t c = (i : Int) := by
  have : pl t c = some i := by
    unfold pl
    rw [List.idxOf?_eq_some_iff]
    exact ⟨h, by simpa using hc, fun j hj => by simpa using hn j hj⟩
  unfold plI; rw [this]
theorem plI_none {t : List UInt8} {c : UInt8} (hn : ∀ j, (hj : j < t.length) → t[j] ≠ c) : plI t c = -1 := by
  have : pl t c = none := by
    unfold pl
    rw [List.idxOf?_eq_none_iff]
    intro hm
    obtain ⟨j, hj, e⟩ := List.getElem_of_mem hm
    exact hn j hj e
  unfold plI; rw [this]
set_option maxRecDepth 100000 in
theorem place_walk (s : ByteArray) (c : UInt8) (hs : s.size ≤ 64) (w : World) : Calls Tryz.prog 100 #[.string s, vb c] w fun e w' => e = .returned (.int .i64 (plI s.data.toList c)) ∧ w' = w := by
  have HS := Hid.of (Go.Lib.size_eq s)
  go_enter Tryz.func100, Tryz.ntmps100
  go_wp2
  go_loop [5] (fun v5 => ∃ i : Nat, v5 = .int .i64 (i : Int) ∧ i ≤ s.size ∧ Hid (∀ j, (hj : j < i) → (hl : j < s.data.toList.length) → s.data.toList[j] ≠ c)) (fun v5 => s.size - (intOf v5).toNat)
  case atStart => exact ⟨0, rfl, by omega, fun j hj => by omega⟩
  case round =>
    obtain ⟨i, rfl, hi, hI⟩ := hrel
    by_cases hlt : i < s.size
    · have hlt' : (i : Int) < (s.size : Int) := by omega
      have hil : i < s.data.toList.length := by rw [← HS.out]; exact hlt
      by_cases hc : s[i] = c
      · have hcc : ((s[i].toNat : Int) == (c.toNat : Int)) = true := by rw [hc]; simp
        have HF := Hid.of (plI_some hil (by rw [← sget' s i hlt]; exact hc) (fun j hj => hI.out j hj (by omega)))
        clear hc
        go_wp2
        go_ret
        rw [HF.out]
        exact ⟨rfl, rfl⟩
      · have hcc : ((s[i].toNat : Int) == (c.toNat : Int)) = false := by rw [u8_eq]; simpa using hc
        have HN := Hid.of (show ∀ j, (hj : j < i + 1) → (hl : j < s.data.toList.length) → s.data.toList[j] ≠ c from fun j hj hl => by
          by_cases e : j = i
          · subst e; rw [← sget' s j hlt]; exact hc
          · exact hI.out j (by omega) hl)
        clear hc
        go_wp2
        go_round
        case rel => exact ⟨i + 1, by go_num, by omega, HN⟩
        case measure => simp [intOf]; omega
    · have hlt' : ¬ (i : Int) < (s.size : Int) := by omega
      have HF := Hid.of (plI_none (t := s.data.toList) (c := c) (fun j hj => hI.out j (by have := HS.out; omega) hj))
      go_wp2
      go_ret
      rw [HF.out]
      exact ⟨rfl, rfl⟩
theorem plI_hv {c : UInt8} {i : Nat} (h : pl DT c = some i) : plI DT c = (i : Int) := by unfold plI; rw [h]
theorem plI_no {t : List UInt8} {c : UInt8} (h : pl t c = none) : plI t c = -1 := by unfold plI; rw [h]
end Go.Proofs.YtnciglpdjpckiaaGreatDoor
namespace TextNum
/-- the first k bits of a byte -/
def b8 (x : UInt8) (k : Nat) : List Nat := (List.range k).map fun t => x.toNat / 2 ^ (7 - t) % 2
def bt : List UInt8 → List Nat
  | [] => []
  | x :: r => b8 x 8 ++ bt r
theorem b8_succ (x : UInt8) (k : Nat) : b8 x (k + 1) = b8 x k ++ [x.toNat / 2 ^ (7 - k) % 2] := by simp [b8, List.range_succ]
theorem b8_length (x : UInt8) (k : Nat) : (b8 x k).length = k := by simp [b8]
theorem bt_append : ∀ a b, bt (a ++ b) = bt a ++ bt b
  | [], b => rfl
  | x :: r, b => by simp [bt, bt_append r b]
theorem bt_length : ∀ l, (bt l).length = 8 * l.length
  | [] => rfl
  | x :: r => by simp [bt, bt_length r, b8_length]; omega
theorem bt_snoc (l : List UInt8) (x : UInt8) : bt (l ++ [x]) = bt l ++ b8 x 8 := by rw [bt_append]; simp [bt]
theorem b8_two (x : UInt8) (k : Nat) : ∀ n ∈ b8 x k, n < 2 := by
  intro n hn
  obtain ⟨t, _, rfl⟩ := List.mem_map.1 hn
  exact Nat.mod_lt _ (by decide)
theorem bt_two : ∀ l, ∀ n ∈ bt l, n < 2
  | [], n, h => by cases h
  | x :: r, n, h => by
    rcases List.mem_append.1 h with h | h
    · exact b8_two x 8 n h
    · exact bt_two r n h
end TextNum
namespace Go.Proofs.YtnciglpdjpckiaaGreatDoor
open Go.RowKit TextNum

set_option maxRecDepth 100000 in
theorem Tryz.infoI : (Tryz.prog.info? 3).map (fun i => (i.zero, i.size, i.bytes)) = some (some (.int .i64 0), 1, 8) := by kernel_rfl
def ci (l : List Nat) : List Value := l.map fun (n : Nat) => Value.int .i64 (n : Int)
theorem ci_append (a b : List Nat) : ci (a ++ b) = ci a ++ ci b := by simp [ci]
theorem ci_get {l : List Nat} {i : Nat} (h : i < l.length) : (ci l)[i]? = some (.int .i64 (l[i] : Int)) := by simp [ci, h]
theorem ci_one (l : List Nat) : ∀ u ∈ ci l, u.oneCell' = true := by
  intro u hu
  obtain ⟨c, _, rfl⟩ := List.mem_map.1 hu
  rfl
/-- a list of ints of one's own -/
def OwnI (w : World) (B : Nat) (v : Value) (l : List Nat) : Prop := w.ownsRow B 3 1 v l.length (ci l)
theorem ownI_nil (w : World) (B : Nat) : OwnI w B (.slice none 0 0) [] := World.ownsRow_nil w B 3 1
theorem OwnI.len {w : World} {B : Nat} {v : Value} {l : List Nat} (h : OwnI w B v l) : ∃ a c, v = .slice a l.length c := by
  rcases h.2 with ⟨rfl, e⟩ | ⟨g, cap, cur, rfl, _⟩
  · exact ⟨none, 0, by rw [e]⟩
  · exact ⟨_, _, rfl⟩
theorem OwnI.below {w w' : World} {B : Nat} {v : Value} {l : List Nat} (h : OwnI w B v l) (k : Up w w') : OwnI w' B v l := by
  refine ⟨h.1, ?_⟩
  rcases h.2 with e | ⟨g, cap, cur, e, hbg, hg, r⟩
  · exact .inl e
  · have hlt : g < w.heap.size := by
      rcases Nat.lt_or_ge g w.heap.size with h1 | h1
      · exact h1
      · rw [Array.getElem?_eq_none h1] at hg; cases hg
    exact .inr ⟨g, cap, cur, e, hbg, by rw [k.block g hlt]; exact hg, r⟩
theorem OwnI.cells {w : World} {B : Nat} {v : Value} {l : List Nat} (h : OwnI w B v l) (h0 : l ≠ []) : ∃ g c, v = .slice (some ⟨g, 0, none⟩) l.length c ∧ l.length ≤ c ∧ g < w.heap.size ∧ ∀ i (hi : i < l.length), w.cell? ⟨g, i, none⟩ = some (.int .i64 (l[i] : Int)) := by
  rcases h.2 with ⟨rfl, e⟩ | ⟨g, cap, cur, rfl, hbg, hg, hnc, _⟩
  · exact absurd (List.eq_nil_of_length_eq_zero e) h0
  · refine ⟨g, cap, rfl, hnc, (World.ownsRow.lt h g rfl).2, fun i hi => ?_⟩
    have := World.ownsRow.cells h (g := g) rfl i _ (ci_get hi)
    rwa [add_plain, Nat.zero_add] at this
theorem wpList_appI {ops : Array Oper} {rest : List Oper} {o : Oper} {a : Act} {w : World} {t : TypeId} {Q : Exit → Act → World → Prop} (hgd : o.guard = none) (s x : Operand)
    (ho : o.op = .call { callee := .builtin .append, args := #[s, x], argTypes := #[128, 128] }) (B : Nat) (v : Value) (l : List Nat) (m : Nat) (hs : a.eval s = v) (hown : OwnI w B v l)
    (c : Nat) (hx : a.eval x = .slice (some ⟨w.heap.size, 0, none⟩) 1 c) (hn : l.length + 1 ≤ 17592186044416) (hB : B ≤ w.heap.size)
    (h : ∀ v' w', OwnI w' B v' (l ++ [m]) → Below B w w' → wpList Tryz.prog ops Q rest (a.put o.dst v') w') : wpList Tryz.prog ops Q (o :: rest) a (w.alloc (.cells (ci [m]).toArray t)) := by
  obtain ⟨i0, hi, hz0, hz1, hz2⟩ := info_parts Tryz.infoI
  refine wpList_append_own _ hgd s x 128 ho B 3 i0 (.int .i64 0) 1 8 Tryz.underlying128 hi hz0 hz1 hz2 rfl (by decide) v l.length (ci l) hs (OwnI.below hown ((Up.refl w).alloc _)) ⟨w.heap.size, 0, none⟩ 1 c (ci [m]) hx (by simp [ci]) (cells_new w t (ci [m])) (ci_one [m]) (by unfold maxLen; omega) (by omega) (by simp; omega) ?_
  intro v' w' h1 h2 _
  refine h v' w' ?_ (((Below.refl B w).alloc hB _).trans ((Below.refl B _).grown h2 (by simp; omega) (fun k hk => (World.ownsRow.lt hown k hk).1)))
  unfold OwnI
  rw [List.length_append, ci_append]
  exact h1

set_option maxRecDepth 100000 in
set_option maxHeartbeats 2000000 in
theorem bits_walk (v : Value) (l : List UInt8) (w : World) (hS : Sl w v l) (hl : l.length ≤ 1099511627776) :
    Calls Tryz.prog 99 #[v] w fun e w' => ∃ v', e = .returned v' ∧ OwnI w' w.heap.size v' (bt l) ∧ Up w w' := by
  obtain ⟨a, c, rfl, _, hS⟩ := hS
  have HT := Hid.of hS
  clear hS
  go_enter Tryz.func99, Tryz.ntmps99
  go_wp2
  go_loopw [3, 4] (fun v3 v4 wr => ∃ i : Nat, v4 = .int .i64 (i : Int) ∧ i ≤ l.length ∧ Hid (OwnI wr w.heap.size v3 (bt (l.take i)) ∧ Up w wr)) (fun _ v4 _ => l.length - (intOf v4).toNat)
  case atStart => exact ⟨0, rfl, by omega, ownI_nil _ _, Up.refl _⟩
  case round =>
    obtain ⟨i, rfl, hi, hI⟩ := hrel
    obtain ⟨wb, hwb⟩ : ∃ wb, wb = wr := ⟨_, rfl⟩
    subst hwb
    by_cases hlt : i < l.length
    · rcases HT.out with e | ⟨b, off, rfl, hb, hc⟩
      · subst e; simp at hlt
      · have HC := Hid.of (hc i hlt)
        have hlt' : (i : Int) < (l.length : Int) := by omega
        have HX := Hid.of (bt_snoc (l.take i) l[i])
        rw [← take_succ6 hlt] at HX
        have HL := Hid.of (show (bt (l.take i)).length ≤ 8796093022208 by rw [bt_length]; simp; omega)
        clear hc
        generalize l[i] = x at *
        have hx : x.toNat < 256 := x.toNat_lt
        go_wp2
        go_loopw [3, 5] (fun v3 v5 wr => ∃ k : Nat, v5 = .int .i64 (7 - (k : Int)) ∧ k ≤ 8 ∧ Hid (OwnI wr w.heap.size v3 (bt (l.take i) ++ b8 x k) ∧ Up w wr)) (fun _ v5 _ => (intOf v5 + 1).toNat)
        case atStart => exact ⟨0, rfl, by omega, by simpa [b8] using hI.out.1, hI.out.2⟩
        case round =>
          obtain ⟨k, rfl, hk, hI2⟩ := hrel
          by_cases hk8 : k < 8
          · have e1 : (0 : Int) ≤ 7 - (k : Int) := by omega
            have hcx := hI2.out.2.cell HC.out
            have HB8 := Hid.of (b8_succ x k)
            obtain ⟨y, hy⟩ : ∃ y : Nat, y = x.toNat / 2 ^ (7 - k) := ⟨_, rfl⟩
            have hs1 : (x.toNat : Int) / 2 ^ (7 - k) = (y : Int) := by rw [hy]; simp
            have hyl : y < 256 := by rw [hy]; exact Nat.lt_of_le_of_lt (Nat.div_le_self _ _) hx
            rw [← hy] at HB8
            clear hy
            have hs2 : (y : Int).tmod 2 = ((y % 2 : Nat) : Int) := by rw [Int.tmod_eq_emod_of_nonneg (by omega)]; omega
            have hb2 : y % 2 < 2 := Nat.mod_lt _ (by decide)
            generalize y % 2 = bb at *
            go_wp2_with (with_reducible show wpList _ _ _ ({ dst := _, op := Op.call { callee := Callee.builtin Builtin.append, args := _, argTypes := _ }, type := _, pos := _, after := _, guard := _ } :: _) _ _; refine Shut.out ?_)
            show wpList _ _ _ _ _ _
            refine wpList_appI rfl _ _ rfl w.heap.size _ (bt (l.take i) ++ b8 x k) bb rfl (by exact hI2.out.1) 1 rfl (by have := HL.out; simp [b8_length]; omega) hI2.out.2.size ?_
            intro v' w3 h3 k3
            have H3 := Hid.of (And.intro h3 (hI2.out.2.step (Nat.le_refl _) k3))
            clear h3 k3
            simp only [Act.put, List.setIfInBounds_toArray, List.set_cons_zero, List.set_cons_succ]
            go_wp2
            go_roundw
            case rel => exact ⟨k + 1, by go_num, by omega, by rw [HB8.out, ← List.append_assoc]; exact H3.out.1, H3.out.2⟩
            case measure => simp [intOf]; omega
          · obtain rfl : k = 8 := by omega
            have HE := Hid.of (show OwnI wr w.heap.size u3 (bt (l.take (i + 1))) by rw [HX.out]; exact hI2.out.1)
            go_wp2
            go_roundw
            case rel => exact ⟨i + 1, by go_num, by omega, HE.out, hI2.out.2⟩
            case measure => simp [intOf]; omega
    · obtain rfl : i = l.length := by omega
      have HE := Hid.of (show OwnI wb w.heap.size u3 (bt l) by have := hI.out.1; rwa [List.take_length] at this)
      go_wp2
      go_ret
      exact ⟨_, rfl, HE.out, hI.out.2⟩
end Go.Proofs.YtnciglpdjpckiaaGreatDoor
namespace TextNum
def bv6 (d : List Nat) : Nat := d.foldl (fun a b => 2 * a + b) 0
def grp : List Nat → List UInt8
  | a :: b :: c :: d :: e :: f :: r => lt (bv6 [a, b, c, d, e, f]) :: grp r
  | _ => []
theorem bv6_snoc (d : List Nat) (b : Nat) : bv6 (d ++ [b]) = 2 * bv6 d + b := by simp [bv6]
theorem bv6_lt : ∀ (n : Nat) (d : List Nat), d.length = n → (∀ b ∈ d, b < 2) → bv6 d < 2 ^ n := by
  intro n
  induction n with
  | zero => intro d h _; rw [List.eq_nil_of_length_eq_zero h]; decide
  | succ n ih =>
    intro d h hd
    rcases List.eq_nil_or_concat d with e | ⟨t, b, e⟩
    · subst e; simp at h
    · rw [List.concat_eq_append] at e
      subst e
      have h1 := ih t (by simpa using h) (fun x hx => hd x (by simp [hx]))
      have h2 := hd b (by simp)
      rw [bv6_snoc, Nat.pow_succ]
      omega
theorem grp_append : ∀ (a b : List Nat), a.length % 6 = 0 → grp (a ++ b) = grp a ++ grp b
  | [], b, _ => rfl
  | [_], b, h => by simp at h
  | [_, _], b, h => by simp at h
  | [_, _, _], b, h => by simp at h
  | [_, _, _, _], b, h => by simp at h
  | [_, _, _, _, _], b, h => by simp at h
  | x1 :: x2 :: x3 :: x4 :: x5 :: x6 :: r, b, h => by
    have := grp_append r b (by simp at h; omega)
    simp only [List.cons_append, grp, this]
theorem grp_length : ∀ (a : List Nat), (grp a).length = a.length / 6
  | [] => by simp [grp]
  | [_] => by simp [grp]
  | [_, _] => by simp [grp]
  | [_, _, _] => by simp [grp]
  | [_, _, _, _] => by simp [grp]
  | [_, _, _, _, _] => by simp [grp]
  | x1 :: x2 :: x3 :: x4 :: x5 :: x6 :: r => by simp only [grp, List.length_cons, grp_length r]; omega
theorem grp_six (d : List Nat) (h : d.length = 6) : grp d = [lt (bv6 d)] := by
  match d, h with
  | [a, b, c, e, f, g], _ => rfl
theorem b8_8 (x : UInt8) : b8 x 8 = [x.toNat / 128 % 2, x.toNat / 64 % 2, x.toNat / 32 % 2, x.toNat / 16 % 2, x.toNat / 8 % 2, x.toNat / 4 % 2, x.toNat / 2 % 2, x.toNat / 1 % 2] := rfl
theorem v1 {x : Nat} (hx : x < 256) : bv6 [x / 128 % 2, x / 64 % 2, x / 32 % 2, x / 16 % 2, x / 8 % 2, x / 4 % 2] = x / 4 := by
  simp only [bv6, List.foldl_cons, List.foldl_nil]; omega
theorem v2 {x y : Nat} (hy : y < 256) : bv6 [x / 2 % 2, x / 1 % 2, y / 128 % 2, y / 64 % 2, y / 32 % 2, y / 16 % 2] = x % 4 * 16 + y / 16 := by
  simp only [bv6, List.foldl_cons, List.foldl_nil]; omega
theorem v2z {x : Nat} : bv6 [x / 2 % 2, x / 1 % 2, 0, 0, 0, 0] = x % 4 * 16 := by
  simp only [bv6, List.foldl_cons, List.foldl_nil]; omega
theorem v3 {y z : Nat} (hz : z < 256) : bv6 [y / 8 % 2, y / 4 % 2, y / 2 % 2, y / 1 % 2, z / 128 % 2, z / 64 % 2] = y % 16 * 4 + z / 64 := by
  simp only [bv6, List.foldl_cons, List.foldl_nil]; omega
theorem v3z {y : Nat} : bv6 [y / 8 % 2, y / 4 % 2, y / 2 % 2, y / 1 % 2, 0, 0] = y % 16 * 4 := by
  simp only [bv6, List.foldl_cons, List.foldl_nil]; omega
theorem v4 {z : Nat} : bv6 [z / 32 % 2, z / 16 % 2, z / 8 % 2, z / 4 % 2, z / 2 % 2, z / 1 % 2] = z % 64 := by
  simp only [bv6, List.foldl_cons, List.foldl_nil]; omega
theorem enc_eq : ∀ (l : List UInt8) (k q : Nat), ((l.length % 3 = 0 ∧ k = 0 ∧ q = 0) ∨ (l.length % 3 = 1 ∧ k = 4 ∧ q = 2) ∨ (l.length % 3 = 2 ∧ k = 2 ∧ q = 1)) → grp (bt l ++ List.replicate k 0) ++ List.replicate q 61 = b64E l
  | [], k, q, h => by
    obtain ⟨rfl, rfl⟩ : k = 0 ∧ q = 0 := by simp at h; exact h
    rfl
  | [x], k, q, h => by
    obtain ⟨rfl, rfl⟩ : k = 4 ∧ q = 2 := by simp at h; exact h
    have hx := x.toNat_lt
    show grp (b8 x 8 ++ [] ++ [0, 0, 0, 0]) ++ [61, 61] = g1 x
    rw [b8_8]
    simp only [List.cons_append, List.nil_append, grp]
    rw [v1 hx, v2z]
    rfl
  | [x, y], k, q, h => by
    obtain ⟨rfl, rfl⟩ : k = 2 ∧ q = 1 := by simp at h; exact h
    have hx := x.toNat_lt
    have hy := y.toNat_lt
    show grp (b8 x 8 ++ (b8 y 8 ++ []) ++ [0, 0]) ++ [61] = g2 x y
    rw [b8_8, b8_8]
    simp only [List.cons_append, List.nil_append, grp]
    rw [v1 hx, v2 hy, v3z]
    rfl
  | x :: y :: z :: r, k, q, h => by
    have ih := enc_eq r k q (by simp only [List.length_cons] at h; omega)
    have hx := x.toNat_lt
    have hy := y.toNat_lt
    have hz := z.toNat_lt
    show grp (b8 x 8 ++ (b8 y 8 ++ (b8 z 8 ++ bt r)) ++ List.replicate k 0) ++ List.replicate q 61 = g3 x y z ++ b64E r
    rw [b8_8, b8_8, b8_8]
    simp only [List.cons_append, List.nil_append, grp] at ih ⊢
    rw [ih]
    rw [v1 hx, v2 hy, v3 hz, v4]
    rfl
end TextNum
namespace Go.Proofs.YtnciglpdjpckiaaGreatDoor
open Go.RowKit TextNum

/-- the letters' text -/
def LS : ByteArray := ⟨#[65, 66, 67, 68, 69, 70, 71, 72, 73, 74, 75, 76, 77, 78, 79, 80, 81, 82, 83, 84, 85, 86, 87, 88, 89, 90, 97, 98, 99, 100, 101, 102, 103, 104, 105, 106, 107, 108, 109, 110, 111, 112, 113, 114, 115, 116, 117, 118, 119, 120, 121, 122, 48, 49, 50, 51, 52, 53, 54, 55, 56, 57, 43, 47]⟩
theorem LS_get (k : Nat) (h : k < 64) : LS[k]'h = lt k := (by decide : ∀ k : Fin 64, LS[k.1]'(k.2) = lt k.1) ⟨k, h⟩
theorem own_sl_up {w w' : World} {B : Nat} {v : Value} {l : List UInt8} (h : Own w B v l) (k : Up w w') : Sl w' v l := h.sl.up k
theorem rep_succ (k : Nat) : List.replicate (k + 1) 0 = List.replicate k 0 ++ [0] := by rw [List.replicate_succ']
theorem rep61 (k : Nat) : List.replicate (k + 1) (61 : UInt8) = List.replicate k 61 ++ [61] := by rw [List.replicate_succ']

set_option linter.unusedSimpArgs false in
set_option maxRecDepth 100000 in
set_option maxHeartbeats 4000000 in
theorem REncode64_walk (v : Value) (l : List UInt8) (w : World) (hS : Sl w v l) (hl : l.length ≤ 1099511627776) :
    Calls Tryz.prog 54 #[v] w fun e w' => e = .returned (vs (b64E l)) ∧ Up w w' := by
  obtain ⟨a, c, ev, _, _⟩ := id hS
  have HS := Hid.of hS
  clear hS
  subst ev
  go_enter Tryz.func54, Tryz.ntmps54
  go_wp2_with fail
  refine (bits_walk _ l w HS.out hl).mono ?_
  rintro e w1 ⟨v1, rfl, h1, u1⟩
  have H1 := Hid.of (And.intro h1 u1)
  clear h1 u1
  dsimp only
  go_wp2
  go_loopw [3] (fun v3 wr => ∃ k n : Nat, slen v3 = n ∧ n = 8 * l.length + k ∧ k ≤ 4 ∧ (l.length % 3 = 0 → k = 0) ∧ (l.length % 3 = 2 → k ≤ 2) ∧ Hid (OwnI wr w.heap.size v3 (bt l ++ List.replicate k 0) ∧ Up w wr)) (fun v3 _ => 8 * l.length + 4 - slen v3)
  case atStart =>
    refine ⟨0, 8 * l.length, ?_, by omega, by omega, fun _ => rfl, fun _ => by omega, ?_⟩
    · obtain ⟨a3, c3, e⟩ := H1.out.1.len
      rw [e]; exact bt_length l
    · exact Hid.of (by simpa using H1.out)
  case round =>
    obtain ⟨k, n, hsl, hn, hk4, hk0, hk2, hI⟩ := hrel
    obtain ⟨a3, c3, ev⟩ := hI.out.1.len
    have hlen : (bt l ++ List.replicate k 0).length = n := by rw [List.length_append, bt_length, List.length_replicate, hn]
    rw [hlen] at ev
    subst ev
    clear hsl
    by_cases h6 : n % 6 = 0
    · have d6 : ((n : Int) % 6) = 0 := by omega
      have hP2 : ∀ b ∈ bt l ++ List.replicate k 0, b < 2 := by
        intro b hb
        rcases List.mem_append.1 hb with h | h
        · exact bt_two l b h
        · rw [(List.mem_replicate.1 h).2]; decide
      have hkk : (l.length % 3 = 0 ∧ k = 0) ∨ (l.length % 3 = 1 ∧ k = 4) ∨ (l.length % 3 = 2 ∧ k = 2) := by omega
      obtain ⟨P, hP⟩ : ∃ P, P = bt l ++ List.replicate k 0 := ⟨_, rfl⟩
      rw [← hP] at hlen hP2 hI
      have HPE := Hid.of hP
      have HKK := Hid.of hkk
      have HP2 := Hid.of hP2
      have HPL := Hid.of hlen
      obtain ⟨wb, hwb⟩ : ∃ wb, wb = wr := ⟨_, rfl⟩
      subst hwb
      clear hP hP2 hlen hkk hk0 hk2
      have hnb : n ≤ 8796093022212 := by omega
      have HNN := Hid.of hn
      clear hn
      go_wp2
      clear d6
      go_loopw [4, 5] (fun v4 v5 wr => ∃ i : Nat, v5 = .int .i64 (i : Int) ∧ i ≤ n ∧ i % 6 = 0 ∧ Hid (Own wr wb.heap.size v4 (grp (P.take i)) ∧ Up wb wr)) (fun _ v5 _ => n - (intOf v5).toNat)
      case atStart => exact ⟨0, rfl, by omega, rfl, own_nil _ _, Up.refl _⟩
      case round =>
        obtain ⟨i, rfl, hi, hi6, hI2⟩ := hrel
        obtain ⟨wc, hwc⟩ : ∃ wc, wc = wr := ⟨_, rfl⟩
        subst hwc
        by_cases hlt : i < n
        · have hlt' : (i : Int) < (n : Int) := by omega
          have hi5 : i + 6 ≤ n := by omega
          obtain ⟨g, c', ev, hcap, hg, hcell⟩ := hI.out.1.cells (fun e => by have := HPL.out; rw [e] at this; simp at this; omega)
          rw [HPL.out] at ev
          cases ev
          have HC := Hid.of hcell
          clear hcell
          go_wp2
          go_loop [6, 7] (fun v6 v7 => ∃ j : Nat, v7 = .int .i64 (j : Int) ∧ j ≤ 6 ∧ v6 = .int .i64 (bv6 ((P.drop i).take j) : Int)) (fun _ v7 => 6 - (intOf v7).toNat)
          case atStart => exact ⟨0, rfl, by omega, rfl⟩
          case round =>
            obtain ⟨j, rfl, hj, rfl⟩ := hrel
            by_cases hj6 : j < 6
            · have hj6' : (j : Int) < 6 := by omega
              have hij : i + j < P.length := by rw [HPL.out]; omega
              have hcx := hI2.out.2.cell (HC.out (i + j) hij)
              have hbt : P[i + j] < 2 := HP2.out _ (List.getElem_mem hij)
              have hbv : bv6 ((P.drop i).take j) < 64 := Nat.lt_of_lt_of_le (bv6_lt j _ (by rw [List.length_take, List.length_drop, HPL.out]; omega) (fun b hb => HP2.out b (List.mem_of_mem_drop (List.mem_of_mem_take hb)))) (Nat.pow_le_pow_right (by decide) (by omega) : 2 ^ j ≤ 2 ^ 6)
              have HBV := Hid.of (show bv6 ((P.drop i).take (j + 1)) = 2 * bv6 ((P.drop i).take j) + P[i + j] by
                rw [← bv6_snoc]
                congr 1
                have hjl : j < (P.drop i).length := by rw [List.length_drop]; omega
                rw [List.take_succ_eq_append_getElem hjl, List.getElem_drop])
              generalize bv6 ((P.drop i).take j) = nn at *
              generalize P[i + j] = bb at *
              go_wp2
              go_round
              case rel => exact ⟨j + 1, by go_num, by omega, by rw [HBV.out]; go_num⟩
              case measure => simp [intOf]; omega
            · obtain rfl : j = 6 := by omega
              have hd6 : ((P.drop i).take 6).length = 6 := by rw [List.length_take, List.length_drop, HPL.out]; omega
              have hbv : bv6 ((P.drop i).take 6) < 64 := bv6_lt 6 _ hd6 (fun b hb => HP2.out b (List.mem_of_mem_drop (List.mem_of_mem_take hb)))
              have HG := Hid.of (show grp (P.take (i + 6)) = grp (P.take i) ++ [lt (bv6 ((P.drop i).take 6))] by
                rw [List.take_add, grp_append _ _ (by rw [List.length_take, HPL.out]; omega), grp_six _ hd6])
              have HL := Hid.of (show (grp (P.take i)).length + 1 ≤ 140737488355328 by rw [grp_length, List.length_take]; omega)
              clear hd6
              have g1 := LS_get _ hbv
              unfold LS at g1
              generalize bv6 ((P.drop i).take 6) = nn at *
              go_wp2_with (with_reducible show wpList _ _ _ ({ dst := _, op := Op.call { callee := Callee.builtin Builtin.append, args := _, argTypes := _ }, type := _, pos := _, after := _, guard := _ } :: _) _ _; refine Shut.out ?_)
              show wpList _ _ _ _ _ _
              refine wpList_app1 rfl _ _ rfl wb.heap.size _ (grp (P.take i)) [lt nn] rfl (by exact hI2.out.1) 1 rfl (by have := HL.out; simpa using this) hI2.out.2.size ?_
              intro v' w3 h3 k3
              have H3 := Hid.of (And.intro h3 (hI2.out.2.step (Nat.le_refl _) k3))
              clear h3 k3
              simp only [Act.put, List.setIfInBounds_toArray, List.set_cons_zero, List.set_cons_succ]
              go_wp2
              go_roundw
              case rel => exact ⟨i + 6, by go_num, by omega, by omega, by rw [HG.out]; exact H3.out.1, H3.out.2⟩
              case measure => simp [intOf]; omega
        · obtain rfl : i = n := by omega
          have hlt' : ¬ (i : Int) < (i : Int) := by omega
          have hmt : grp (P.take i) = grp P := by rw [List.take_of_length_le (by rw [HPL.out]; exact Nat.le_refl _)]
          have hml : (grp P).length = i / 6 := by rw [grp_length, HPL.out]
          rw [hmt] at hI2
          have HML := Hid.of hml
          clear hmt hml
          go_wp2
          go_loopw [4] (fun v4 wr => ∃ q m : Nat, slen v4 = m ∧ m = i / 6 + q ∧ q ≤ 2 ∧ (l.length % 3 = 0 → q = 0) ∧ (l.length % 3 = 2 → q ≤ 1) ∧ Hid (Own wr wb.heap.size v4 (grp P ++ List.replicate q 61) ∧ Up wb wr)) (fun v4 _ => i / 6 + 2 - slen v4)
          case atStart =>
            refine ⟨0, i / 6, ?_, by omega, by omega, fun _ => rfl, fun _ => by omega, ?_⟩
            · obtain ⟨a3, c3, e⟩ := hI2.out.1.len
              rw [e]; exact HML.out
            · exact Hid.of (by simpa using hI2.out)
          case round =>
            obtain ⟨q, m, hsl, hm, hq2, hq0, hq1, hI3⟩ := hrel
            obtain ⟨a4, c4, ev⟩ := hI3.out.1.len
            rw [List.length_append, HML.out, List.length_replicate, ← hm] at ev
            subst ev
            clear hsl
            have HM := Hid.of hm
            have hnn := HNN.out
            by_cases h4 : m % 4 = 0
            · have d4 : ((m : Int) % 4) = 0 := by omega
              have HE := Hid.of (enc_eq l k q (by have := HKK.out; omega))
              clear hm hnn
              rw [← HPE.out] at HE
              have hcv := conv_sl (Own.sl hI3.out.1)
              rw [HE.out] at hcv
              go_wp2
              go_ret
              exact ⟨rfl, (hI.out.2.trans hI3.out.2)⟩
            · have d4 : ((m : Int) % 4 != 0) = true := by simp; omega
              have HR := Hid.of (rep61 q)
              have HKN := Hid.of (show q + 1 ≤ 2 ∧ (l.length % 3 = 0 → q + 1 = 0) ∧ (l.length % 3 = 2 → q + 1 ≤ 1) ∧ m ≤ 1466015503704 by have := HKK.out; omega)
              have hmb := HKN.out.2.2.2
              clear hm hnn
              go_wp2_with (with_reducible show wpList _ _ _ ({ dst := _, op := Op.call { callee := Callee.builtin Builtin.append, args := _, argTypes := _ }, type := _, pos := _, after := _, guard := _ } :: _) _ _; refine Shut.out ?_)
              show wpList _ _ _ _ _ _
              refine wpList_app1 rfl _ _ rfl wb.heap.size _ (grp P ++ List.replicate q 61) [61] rfl (by exact hI3.out.1) 1 rfl (by have := HM.out; simp [HML.out]; omega) hI3.out.2.size ?_
              intro v' w3 h3 k3
              have H3 := Hid.of (And.intro h3 (hI3.out.2.step (Nat.le_refl _) k3))
              clear h3 k3
              simp only [Act.put, List.setIfInBounds_toArray, List.set_cons_zero, List.set_cons_succ]
              go_wp2
              go_roundw
              case rel =>
                refine ⟨q + 1, m + 1, ?_, by have := HM.out; omega, HKN.out.1, HKN.out.2.1, HKN.out.2.2.1, by rw [HR.out, ← List.append_assoc]; exact H3.out.1, H3.out.2⟩
                obtain ⟨_, _, e⟩ := H3.out.1.len
                rw [e]; have := HM.out; simp [slen, HML.out]; omega
              case measure =>
                obtain ⟨_, _, e⟩ := H3.out.1.len
                rw [e]
                have e1 := HM.out
                have e2 := HKN.out.1
                have e3 : (grp P ++ List.replicate q 61 ++ [61]).length = m + 1 := by rw [List.length_append, List.length_append, HML.out, List.length_replicate, ← e1]; rfl
                show i / 6 + 2 - (grp P ++ List.replicate q 61 ++ [61]).length < i / 6 + 2 - m
                rw [e3]
                omega
    · have d6 : ((n : Int) % 6 != 0) = true := by simp; omega
      have HR := Hid.of (rep_succ k)
      have HNN := Hid.of hn
      have HKN := Hid.of (show k + 1 ≤ 4 ∧ (l.length % 3 = 0 → k + 1 = 0) ∧ (l.length % 3 = 2 → k + 1 ≤ 2) ∧ n + 1 ≤ 17592186044416 by omega)
      have hnb := HKN.out.2.2.2
      clear hn
      go_wp2_with (with_reducible show wpList _ _ _ ({ dst := _, op := Op.call { callee := Callee.builtin Builtin.append, args := _, argTypes := _ }, type := _, pos := _, after := _, guard := _ } :: _) _ _; refine Shut.out ?_)
      show wpList _ _ _ _ _ _
      refine wpList_appI rfl _ _ rfl w.heap.size _ (bt l ++ List.replicate k 0) 0 rfl (by rw [← hlen] at *; exact hI.out.1) 1 rfl (by rw [hlen]; omega) hI.out.2.size ?_
      intro v' w3 h3 k3
      have H3 := Hid.of (And.intro h3 (hI.out.2.step (Nat.le_refl _) k3))
      clear h3 k3
      simp only [Act.put, List.setIfInBounds_toArray, List.set_cons_zero, List.set_cons_succ]
      go_wp2
      go_roundw
      case rel =>
        refine ⟨k + 1, n + 1, ?_, by have := HNN.out; omega, HKN.out.1, HKN.out.2.1, HKN.out.2.2.1, by rw [HR.out, ← List.append_assoc]; exact H3.out.1, H3.out.2⟩
        obtain ⟨_, _, e⟩ := H3.out.1.len
        rw [e]; show (bt l ++ List.replicate k 0 ++ [0]).length = n + 1
        rw [List.length_append, hlen]; rfl
      case measure =>
        obtain ⟨_, _, e⟩ := H3.out.1.len
        rw [e]; show 8 * l.length + 4 - (bt l ++ List.replicate k 0 ++ [0]).length < 8 * l.length + 4 - n
        rw [List.length_append, hlen]
        have := HNN.out; have := HKN.out.1
        simp; omega
end Go.Proofs.YtnciglpdjpckiaaGreatDoor
namespace TextNum
/-- what the reference collects -/
def cl : Nat → Nat → List UInt8 → List UInt8
  | _, _, [] => []
  | h, n, c :: r => match pl LT c with
    | none => cl h n r
    | some v => if 8 ≤ h + 6 then UInt8.ofNat ((n % 256 * 64 + v) / 2 ^ (h + 6 - 8)) :: cl (h + 6 - 8) (n % 256 * 64 + v) r else cl (h + 6) (n % 256 * 64 + v) r
theorem cl_no {h n : Nat} {c : UInt8} {r : List UInt8} (hp : pl LT c = none) : cl h n (c :: r) = cl h n r := by simp only [cl]; rw [hp]
theorem cl_one {h n v : Nat} {c : UInt8} {r : List UInt8} (hp : pl LT c = some v) (hh : ¬ 8 ≤ h + 6) : cl h n (c :: r) = cl (h + 6) (n % 256 * 64 + v) r := by
  simp only [cl]; rw [hp]; simp only; rw [if_neg hh]
theorem cl_two {h n v : Nat} {c : UInt8} {r : List UInt8} (hp : pl LT c = some v) (hh : 8 ≤ h + 6) : cl h n (c :: r) = UInt8.ofNat ((n % 256 * 64 + v) / 2 ^ (h + 6 - 8)) :: cl (h + 6 - 8) (n % 256 * 64 + v) r := by
  simp only [cl]; rw [hp]; simp only; rw [if_pos hh]
theorem of_mod {m : Nat} {x : UInt8} (h : m % 256 = x.toNat) : UInt8.ofNat m = x := by
  apply UInt8.toNat_inj.1
  rw [UInt8.toNat_ofNat']
  exact h
theorem cl_enc : ∀ (l : List UInt8) (n : Nat), cl 0 n (b64E l) = l
  | [], n => rfl
  | [x], n => by
    have hx := x.toNat_lt
    show cl 0 n [lt (x.toNat / 4), lt (x.toNat % 4 * 16), 61, 61] = [x]
    rw [cl_one (lt_pl _ (by omega)) (by decide), cl_two (lt_pl _ (by omega)) (by decide), cl_no pl_61, cl_no pl_61]
    simp only [cl, Nat.reduceAdd, Nat.reduceSub, Nat.reducePow]
    rw [of_mod (x := x) (by omega)]
  | [x, y], n => by
    have hx := x.toNat_lt
    have hy := y.toNat_lt
    show cl 0 n [lt (x.toNat / 4), lt (x.toNat % 4 * 16 + y.toNat / 16), lt (y.toNat % 16 * 4), 61] = [x, y]
    rw [cl_one (lt_pl _ (by omega)) (by decide), cl_two (lt_pl _ (by omega)) (by decide), cl_two (lt_pl _ (by omega)) (by decide), cl_no pl_61]
    simp only [cl, Nat.reduceAdd, Nat.reduceSub, Nat.reducePow]
    rw [of_mod (x := x) (by omega), of_mod (x := y) (by omega)]
  | x :: y :: z :: r, n => by
    have hx := x.toNat_lt
    have hy := y.toNat_lt
    have hz := z.toNat_lt
    show cl 0 n (lt (x.toNat / 4) :: lt (x.toNat % 4 * 16 + y.toNat / 16) :: lt (y.toNat % 16 * 4 + z.toNat / 64) :: lt (z.toNat % 64) :: b64E r) = x :: y :: z :: r
    rw [cl_one (lt_pl _ (by omega)) (by decide), cl_two (lt_pl _ (by omega)) (by decide), cl_two (lt_pl _ (by omega)) (by decide), cl_two (lt_pl _ (by omega)) (by decide)]
    simp only [Nat.reduceAdd, Nat.reduceSub, Nat.reducePow]
    rw [cl_enc r, of_mod (x := x) (by omega), of_mod (x := y) (by omega), of_mod (x := z) (by omega)]
theorem b64_cl (s : List UInt8) : b64D s = if b64E (cl 0 0 s) = s then some (cl 0 0 s) else none := by
  cases hd : b64D s with
  | some x =>
    have hs := b64_once s x hd
    have hc : cl 0 0 s = x := by rw [← hs]; exact cl_enc x 0
    rw [hc, if_pos hs]
  | none =>
    split
    · rename_i h
      rw [← h, b64_back] at hd; cases hd
    · rfl
end TextNum
namespace Go.Proofs.YtnciglpdjpckiaaGreatDoor
open Go.RowKit TextNum
theorem plL_hv {c : UInt8} {i : Nat} (h : pl TextNum.LT c = some i) : plI TextNum.LT c = (i : Int) := by unfold plI; rw [h]
set_option maxRecDepth 100000 in
set_option maxHeartbeats 2000000 in
theorem RDecode64_walk (s : ByteArray) (w : World) :
    Calls Tryz.prog 56 #[.string s] w fun e w' => ∃ v, e = .returned (.tuple #[v, .int .i64 (b64R s.data.toList).2]) ∧ Own w' w.heap.size v (b64R s.data.toList).1 ∧ Up w w' := by
  have HS := Hid.of (Go.Lib.size_eq s)
  go_enter Tryz.func56, Tryz.ntmps56
  by_cases h1 : 1048576 < s.size
  · have d1 : (1048576 : Int) < (s.size : Int) := by omega
    go_wp2
    go_ret2
    rw [b64R_long (by rw [← HS.out]; exact h1)]
    exact ⟨_, rfl, own_nil _ _, Up.refl _⟩
  · have d1 : ¬ (1048576 : Int) < (s.size : Int) := by omega
    have hle : s.size ≤ 1048576 := by omega
    have HN := Hid.of (show ¬ 1048576 < s.data.toList.length by rw [← HS.out]; exact h1)
    have HU := Hid.of (b64_cl s.data.toList)
    clear h1
    go_wp2
    go_loopw [4, 5, 6, 7] (fun v4 v5 v6 v7 wr => ∃ (i h n : Nat) (out : List UInt8), v7 = .int .i64 (i : Int) ∧ i ≤ s.size ∧ v5 = .int .i64 (h : Int) ∧ h < 8 ∧ v6 = .int .i64 (n : Int) ∧ n < 16384 ∧ Hid (Own wr w.heap.size v4 out ∧ Up w wr ∧ out.length ≤ i ∧ cl 0 0 s.data.toList = out ++ cl h n (s.data.toList.drop i))) (fun _ _ _ v7 _ => s.size - (intOf v7).toNat)
    case atStart => exact ⟨0, 0, 0, [], rfl, by omega, rfl, by omega, rfl, by omega, own_nil _ _, Up.refl _, Nat.zero_le _, by simp⟩
    case round =>
      obtain ⟨i, h, n, out, rfl, hi, rfl, hh, rfl, hnl, hI⟩ := hrel
      by_cases hlt : i < s.size
      · have hlt' : (i : Int) < (s.size : Int) := by omega
        have hd : s.data.toList.drop i = s[i] :: s.data.toList.drop (i + 1) := by
          rw [sget' s i hlt]; exact List.drop_eq_getElem_cons (by rw [← HS.out]; exact hlt)
        have HD := Hid.of hd
        clear hd
        go_wp2_with fail
        refine (place_walk LS s[i] (by decide) wr).mono ?_
        rintro e w2 ⟨rfl, hw⟩
        obtain rfl := hw.symm
        rw [show LS.data.toList = TextNum.LT from rfl]
        dsimp only
        cases hp : pl TextNum.LT s[i] with
        | none =>
          have HF := Hid.of (show cl 0 0 s.data.toList = out ++ cl h n (s.data.toList.drop (i + 1)) by rw [hI.out.2.2.2, HD.out, cl_no hp])
          rw [plI_no hp]
          clear hp
          go_wp2
          go_roundw
          case rel => exact ⟨i + 1, h, n, out, by go_num, by omega, rfl, by omega, rfl, by omega, hI.out.1, hI.out.2.1, by have := hI.out.2.2.1; omega, HF.out⟩
          case measure => simp [intOf]; omega
        | some v =>
          have hv := (pl_lt' hp).2
          rw [plL_hv hp]
          have e0 : decide ((v : Int) < 0) = false := by simp
          have e0' : ¬ (v : Int) < 0 := by omega
          obtain ⟨n', hn'⟩ : ∃ n', n' = n % 256 * 64 + v := ⟨_, rfl⟩
          have hn1 : (n : Int) % 256 * 64 + (v : Int) = (n' : Int) := by omega
          have hnb : n' < 16384 := by omega
          by_cases h8 : 8 ≤ h + 6
          · obtain ⟨h6, hh6⟩ : ∃ h6, h6 = h + 6 := ⟨_, rfl⟩
            obtain ⟨h', hh'⟩ : ∃ h', h' = h + 6 - 8 := ⟨_, rfl⟩
            have k1 : (h : Int) + 6 = (h6 : Int) := by omega
            have k2 : (h6 : Int) - 8 = (h' : Int) := by omega
            have k3 : (8 : Int) ≤ (h6 : Int) := by omega
            have k4 : h' < 6 := by omega
            have hcl := cl_two (r := s.data.toList.drop (i + 1)) (n := n) hp h8
            rw [← hn', ← hh'] at hcl
            obtain ⟨y, hy⟩ : ∃ y, y = n' / 2 ^ h' := ⟨_, rfl⟩
            have k5 : (n' : Int) / 2 ^ h' = (y : Int) := by rw [hy]; simp
            have k6 : y < 16384 := by rw [hy]; exact Nat.lt_of_le_of_lt (Nat.div_le_self _ _) hnb
            rw [← hy] at hcl
            obtain ⟨z, hz⟩ : ∃ z : UInt8, z = UInt8.ofNat y := ⟨_, rfl⟩
            have k7 : (y : Int) % 256 = (z.toNat : Int) := by rw [hz, UInt8.toNat_ofNat']; omega
            have k8 : IntKind.u8.wrap (y : Int) = (z.toNat : Int) := by rw [IntKind.wrap_u8]; exact k7
            have k9 : z.toNat < 256 := z.toNat_lt
            rw [← hz] at hcl
            have HF := Hid.of (show cl 0 0 s.data.toList = out ++ [z] ++ cl h' n' (s.data.toList.drop (i + 1)) by rw [hI.out.2.2.2, HD.out, hcl]; simp)
            clear hp hn' hcl hh6 hh' hy hz h8
            go_wp2_with (with_reducible show wpList _ _ _ ({ dst := _, op := Op.call { callee := Callee.builtin Builtin.append, args := _, argTypes := _ }, type := _, pos := _, after := _, guard := _ } :: _) _ _; refine Shut.out ?_)
            show wpList _ _ _ _ _ _
            refine wpList_app1 rfl _ _ rfl w.heap.size _ out [z] rfl (by exact hI.out.1) 1 rfl (by have := hI.out.2.2.1; simp; omega) hI.out.2.1.size ?_
            intro v' w3 h3 b3
            have H3 := Hid.of (And.intro h3 (hI.out.2.1.step (Nat.le_refl _) b3))
            clear h3 b3
            simp only [Act.put, List.setIfInBounds_toArray, List.set_cons_zero, List.set_cons_succ]
            go_wp2
            go_roundw
            case rel => exact ⟨i + 1, h', n', out ++ [z], by go_num, by omega, rfl, by omega, rfl, by omega, H3.out.1, H3.out.2, by have := hI.out.2.2.1; simp; omega, HF.out⟩
            case measure => simp [intOf]; omega
          · have k3 : ¬ (8 : Int) ≤ (h : Int) + 6 := by omega
            have hcl := cl_one (r := s.data.toList.drop (i + 1)) (n := n) hp h8
            rw [← hn'] at hcl
            have HF := Hid.of (show cl 0 0 s.data.toList = out ++ cl (h + 6) n' (s.data.toList.drop (i + 1)) by rw [hI.out.2.2.2, HD.out, hcl])
            clear hp hn' hcl
            go_wp2
            go_roundw
            case rel => exact ⟨i + 1, h + 6, n', out, by go_num, by omega, by go_num, by omega, rfl, by omega, hI.out.1, hI.out.2.1, by have := hI.out.2.2.1; omega, HF.out⟩
            case measure => simp [intOf]; omega
      · have hlt' : ¬ (i : Int) < (s.size : Int) := by omega
        have hr : cl 0 0 s.data.toList = out := by rw [hI.out.2.2.2, List.drop_eq_nil_of_le (by rw [← HS.out]; omega)]; simp [cl]
        have hq := HU.out
        rw [hr] at hq
        have HQ := Hid.of hq
        clear hr hq
        obtain ⟨a4, c4, ev⟩ := hI.out.1.len
        subst ev
        go_wp2_with fail
        refine (REncode64_walk _ out _ (by exact hI.out.1.sl) (by have := hI.out.2.2.1; omega)).mono ?_
        rintro e w2 ⟨rfl, u2⟩
        have H2 := Hid.of (And.intro (hI.out.1.below u2) (hI.out.2.1.trans u2))
        clear u2
        by_cases he : b64E out = s.data.toList
        · have HF := Hid.of (b64R_some HN.out (show b64D s.data.toList = some out by rw [HQ.out, if_pos he]))
          rw [show vs (b64E out) = .string s by rw [he]]
          clear he
          dsimp only
          go_wp2
          go_ret2
          rw [HF.out]
          exact ⟨_, rfl, H2.out.1, H2.out.2⟩
        · have HF := Hid.of (b64R_none HN.out (show b64D s.data.toList = none by rw [HQ.out, if_neg he]))
          have hne : ((⟨(b64E out).toArray⟩ : ByteArray).toList == s.toList) = false := by
            rw [Go.Lib.toList_data, Go.Lib.toList_data]
            simpa using he
          rw [show vs (b64E out) = .string ⟨(b64E out).toArray⟩ from rfl]
          generalize (⟨(b64E out).toArray⟩ : ByteArray) = qq at *
          clear he
          dsimp only
          go_wp2
          go_ret2
          rw [HF.out]
          exact ⟨_, rfl, own_nil _ _, H2.out.2⟩
end Go.Proofs.YtnciglpdjpckiaaGreatDoor
namespace Go.Proofs.YtnciglpdjpckiaaGreatDoor
open Go.RowKit Go.Shelf TextNum ModNum
set_option maxRecDepth 100000 in
set_option maxHeartbeats 1000000 in
theorem RSum_walk (x : List UInt8) (hx : x.length = 32) (w : World) : Calls Tryz.prog 28 #[.agg (cb x).toArray] w fun e w' => e = .returned (vs (sumT x)) ∧ Up w w' := by
  have HA := Hid.of (at_new w 32 (cb x))
  have HU := Hid.of ((Up.refl w).alloc (.cells (cb x).toArray 32))
  have HSZ := Hid.of (alloc_size w (.cells (cb x).toArray 32))
  have HX := Hid.of hx
  have hxz : (cb x).length = 32 := by rw [cb_length]; exact hx
  have hx' := hx
  clear hx
  go_enter Tryz.func28, Tryz.ntmps28
  go_wp2
  generalize w.alloc (.cells (cb x).toArray 32) = W0 at *
  go_loopw [3, 4] (fun v3 v4 wr => ∃ i : Nat, v4 = .int .i64 (i : Int) ∧ i ≤ 32 ∧ Hid (Own wr W0.heap.size v3 (x.take i) ∧ Up W0 wr)) (fun _ v4 _ => 32 - (intOf v4).toNat)
  case atStart => exact ⟨0, rfl, by omega, own_nil _ _, Up.refl _⟩
  case round =>
    obtain ⟨i, rfl, hi, hI⟩ := hrel
    by_cases hlt : i < 32
    · have hlt' : (i : Int) < 32 := by omega
      have hil : i < x.length := by rw [HX.out]; exact hlt
      have HT := Hid.of (take_succ6 hil)
      have hc := hI.out.2.cell (HA.out.cell (cb_get hil))
      generalize x[i] = y at *
      have HL := Hid.of (show (x.take i).length + 1 ≤ 140737488355328 by rw [List.length_take]; omega)
      go_wp2_with (with_reducible show wpList _ _ _ ({ dst := _, op := Op.call { callee := Callee.builtin Builtin.append, args := _, argTypes := _ }, type := _, pos := _, after := _, guard := _ } :: _) _ _; refine Shut.out ?_)
      show wpList _ _ _ _ _ _
      refine wpList_app1 rfl _ _ rfl W0.heap.size _ (x.take i) [y] rfl (by exact hI.out.1) 1 rfl (by have := HL.out; simpa using this) hI.out.2.size ?_
      intro v' w3 h3 k3
      have H3 := Hid.of (And.intro h3 (hI.out.2.step (Nat.le_refl _) k3))
      clear h3 k3
      simp only [Act.put, List.setIfInBounds_toArray, List.set_cons_zero, List.set_cons_succ]
      go_wp2
      go_roundw
      case rel => exact ⟨i + 1, by go_num, by omega, by rw [HT.out]; exact H3.out.1, H3.out.2⟩
      case measure => simp [intOf]; omega
    · have hlt' : ¬ (i : Int) < 32 := by omega
      have ht : x.take i = x := List.take_of_length_le (by rw [HX.out]; omega)
      rw [ht] at hI
      have HE := Hid.of (REncode64_walk _ x wr (Own.sl hI.out.1) (by rw [HX.out]; decide))
      have HU2 := Hid.of (HU.out.trans hI.out.2)
      obtain ⟨a3, c3, ev⟩ := hI.out.1.len
      have hl32 : x.length = 32 := HX.out
      rw [hl32] at ev
      subst ev
      clear hI ht hlt
      obtain ⟨q, hq1, hq2⟩ := ba_ex (b64E x)
      have hqs : q.size ≤ 44 := by rw [← len_of, hq1, b64E_length, hl32]; decide
      go_wp2_with fail
      refine HE.out.mono ?_
      rintro e w4 ⟨rfl, u4⟩
      have H4 := Hid.of (HU2.out.trans u4)
      rw [show vs (b64E x) = .string q from congrArg Value.string hq2]
      clear u4 HE
      dsimp only
      go_wp2
      go_ret
      refine ⟨?_, H4.out⟩
      rw [← hq2]
      rfl
theorem recT_eq (p v a b : List UInt8) (h : fte p v = 0) : recT p v a b = p ++ [32] ++ v ++ [32] ++ sumT a ++ [10] ++ p ++ [32] ++ v ++ [47, 103, 111, 46, 109, 111, 100, 32] ++ sumT b ++ [10] := by
  unfold recT
  rw [if_pos h]
  simp [lin]
set_option maxRecDepth 100000 in
set_option maxHeartbeats 1000000 in
theorem RRecord_walk (p v : ByteArray) (x y : List UInt8) (hx : x.length = 32) (hy : y.length = 32) (w : World) (hT : TK w) :
    Calls Tryz.prog 31 #[.string p, .string v, .agg (cb x).toArray, .agg (cb y).toArray] w fun e w' => e = .returned (.tuple #[vs (recT p.data.toList v.data.toList x y), .int .i64 (fte p.data.toList v.data.toList)]) ∧ Up w w' := by
  have HF := fun w' => fun (u : Up w w') => Hid.of (Fits_walk p v w' (hT.up u))
  have HSx := fun w' => Hid.of (RSum_walk x hx w')
  have HSy := fun w' => Hid.of (RSum_walk y hy w')
  have HA1 : Hid (At ((w.alloc (.cells (cb x).toArray 32)).alloc (.cells (cb y).toArray 32)) w.heap.size 32 (cb x)) := At.up (at_new w 32 (cb x)) ((Up.refl _).alloc _)
  have HA2 : Hid (At ((w.alloc (.cells (cb x).toArray 32)).alloc (.cells (cb y).toArray 32)) (w.heap.size + 1) 32 (cb y)) := by
    have := at_new (w.alloc (.cells (cb x).toArray 32)) 32 (cb y)
    rw [alloc_size] at this
    exact this
  have HU : Hid (Up w ((w.alloc (.cells (cb x).toArray 32)).alloc (.cells (cb y).toArray 32))) := ((Up.refl w).alloc _).alloc _
  have HlX := Hid.of (And.intro hx hy)
  clear hT hx hy
  go_enter Tryz.func31, Tryz.ntmps31
  go_wp2_with fail
  generalize (w.alloc (.cells (cb x).toArray 32)).alloc (.cells (cb y).toArray 32) = W0 at *
  refine (HF _ HU.out).out.mono ?_
  rintro e w1 ⟨rfl, u1⟩
  have HB1 := Hid.of (HA1.out.up u1)
  have HB2 := Hid.of (HA2.out.up u1)
  have HU2 := Hid.of (HU.out.trans u1)
  clear u1 HF HA1 HA2 HU
  dsimp only
  by_cases h0 : fte p.data.toList v.data.toList = 0
  · have HR2 := Hid.of (recT_eq p.data.toList v.data.toList x y h0)
    have H0 := Hid.of (And.intro h0 trivial)
    obtain ⟨hp1, hv2⟩ := fte_len h0
    rw [len_of] at hp1 hv2
    rw [h0]
    clear h0
    have ix := i32 HlX.out.1
    have iy := i32 HlX.out.2
    have hlx := sumT_len HlX.out.1
    have hly := sumT_len HlX.out.2
    obtain ⟨sx, hx1, hx2⟩ := ba_ex (sumT x)
    obtain ⟨sy, hy1, hy2⟩ := ba_ex (sumT y)
    have hsx : sx.size = 47 := by rw [← len_of, hx1, hlx]
    have hsy : sy.size = 47 := by rw [← len_of, hy1, hly]
    rw [← hx1, ← hy1] at HR2
    rw [show vs (sumT x) = .string sx from congrArg Value.string hx2] at HSx
    rw [show vs (sumT y) = .string sy from congrArg Value.string hy2] at HSy
    clear hx1 hx2 hy1 hy2 hlx hly
    have k1 : ¬ 9223372036854775807 < p.size + 1 := by omega
    have k2 : ¬ 9223372036854775807 < p.size + 1 + v.size := by omega
    have k3 : ¬ 9223372036854775807 < p.size + 1 + v.size + 1 := by omega
    have k4 : ¬ 9223372036854775807 < p.size + 1 + v.size + 1 + sx.size := by omega
    have k5 : ¬ 9223372036854775807 < p.size + 1 + v.size + 1 + sx.size + 1 := by omega
    have k6 : ¬ 9223372036854775807 < p.size + 1 + v.size + 1 + sx.size + 1 + p.size := by omega
    have k7 : ¬ 9223372036854775807 < p.size + 1 + v.size + 1 + sx.size + 1 + p.size + 1 := by omega
    have k8 : ¬ 9223372036854775807 < p.size + 1 + v.size + 1 + sx.size + 1 + p.size + 1 + v.size := by omega
    have k9 : ¬ 9223372036854775807 < p.size + 1 + v.size + 1 + sx.size + 1 + p.size + 1 + v.size + 8 := by omega
    have k10 : ¬ 9223372036854775807 < p.size + 1 + v.size + 1 + sx.size + 1 + p.size + 1 + v.size + 8 + sy.size := by omega
    have k11 : ¬ 9223372036854775807 < p.size + 1 + v.size + 1 + sx.size + 1 + p.size + 1 + v.size + 8 + sy.size + 1 := by omega
    clear hsx hsy hp1 hv2
    go_wp2
    refine wp_region_held_drew (S := fun w2 => w2.rangeAt (w.heap.size) 0 (cb x) ∧ w2.rangeAt (w.heap.size + 1) 0 (cb y) ∧ Up w w2) (by kernel_rfl) ⟨by simpa using HB1.out.range, by simpa using HB2.out.range, HU2.out.drew⟩ (fun hS => ?_)
    refine wpAnyH_take (i := 0) (oi := { dst := some 17, op := Go.Op.move (Go.Operand.tmp 0), type := 9, pos := "order.go:171", after := #[], guard := none }) (v := .string p) rfl (by kernel_rfl) (by kernel_rfl) (by kernel_rfl) (fun _ _ _ h => h) (Or.inl ⟨by kernel_rfl, ?_⟩) hS ?_
    · intro w5 hSw
      go_simp
    simp only [Act.put, List.setIfInBounds_toArray, List.set_cons_zero, List.set_cons_succ]
    refine wpAnyH_take (i := 1) (oi := { dst := some 18, op := Go.Op.binOp Go.BinOp.add 9 (Go.Operand.tmp 17) (Go.Operand.const (Go.Value.string { data := #[32] })) 9, type := 9, pos := "order.go:171", after := #[{ on := 0, ground := Go.Ground.data }], guard := none }) (v := .string (p ++ ⟨#[32]⟩)) rfl (by kernel_rfl) (by kernel_rfl) (by kernel_rfl) (fun _ _ _ h => h) (Or.inl ⟨by kernel_rfl, ?_⟩) hS ?_
    · intro w5 hSw
      go_simp
    simp only [Act.put, List.setIfInBounds_toArray, List.set_cons_zero, List.set_cons_succ]
    refine wpAnyH_take (i := 2) (oi := { dst := some 19, op := Go.Op.move (Go.Operand.tmp 1), type := 9, pos := "order.go:171", after := #[], guard := none }) (v := .string v) rfl (by kernel_rfl) (by kernel_rfl) (by kernel_rfl) (fun _ _ _ h => h) (Or.inl ⟨by kernel_rfl, ?_⟩) hS ?_
    · intro w5 hSw
      go_simp
    simp only [Act.put, List.setIfInBounds_toArray, List.set_cons_zero, List.set_cons_succ]
    refine wpAnyH_take (i := 3) (oi := { dst := some 20, op := Go.Op.binOp Go.BinOp.add 9 (Go.Operand.tmp 18) (Go.Operand.tmp 19) 9, type := 9, pos := "order.go:171", after := #[{ on := 1, ground := Go.Ground.data }, { on := 2, ground := Go.Ground.data }], guard := none }) (v := .string (p ++ ⟨#[32]⟩ ++ v)) rfl (by kernel_rfl) (by kernel_rfl) (by kernel_rfl) (fun _ _ _ h => h) (Or.inl ⟨by kernel_rfl, ?_⟩) hS ?_
    · intro w5 hSw
      go_simp
    simp only [Act.put, List.setIfInBounds_toArray, List.set_cons_zero, List.set_cons_succ]
    refine wpAnyH_take (i := 4) (oi := { dst := some 21, op := Go.Op.binOp Go.BinOp.add 9 (Go.Operand.tmp 20) (Go.Operand.const (Go.Value.string { data := #[32] })) 9, type := 9, pos := "order.go:171", after := #[{ on := 3, ground := Go.Ground.data }], guard := none }) (v := .string (p ++ ⟨#[32]⟩ ++ v ++ ⟨#[32]⟩)) rfl (by kernel_rfl) (by kernel_rfl) (by kernel_rfl) (fun _ _ _ h => h) (Or.inl ⟨by kernel_rfl, ?_⟩) hS ?_
    · intro w5 hSw
      go_simp
    simp only [Act.put, List.setIfInBounds_toArray, List.set_cons_zero, List.set_cons_succ]
    refine wpAnyH_take (i := 5) (oi := { dst := some 22, op := Go.Op.load 32 (Go.Operand.tmp 6), type := 32, pos := "order.go:171", after := #[], guard := none }) (v := .agg (cb x).toArray) rfl (by kernel_rfl) (by kernel_rfl) (by kernel_rfl) (fun _ _ _ h => h) (yieldsIf_load_mid (by kernel_rfl) _ _ rfl (w.heap.size) 0 rfl (cb x) _ (fun w5 hSw => hSw.1) Tryz.underlying32 rfl ix) hS ?_
    simp only [Act.put, List.setIfInBounds_toArray, List.set_cons_zero, List.set_cons_succ]
    refine wpAnyH_take (i := 9) (oi := { dst := some 26, op := Go.Op.move (Go.Operand.tmp 0), type := 9, pos := "order.go:171", after := #[], guard := none }) (v := .string p) rfl (by kernel_rfl) (by kernel_rfl) (by kernel_rfl) (fun _ _ _ h => h) (Or.inl ⟨by kernel_rfl, ?_⟩) hS ?_
    · intro w5 hSw
      go_simp
    simp only [Act.put, List.setIfInBounds_toArray, List.set_cons_zero, List.set_cons_succ]
    refine wpAnyH_take (i := 12) (oi := { dst := some 29, op := Go.Op.move (Go.Operand.tmp 1), type := 9, pos := "order.go:171", after := #[], guard := none }) (v := .string v) rfl (by kernel_rfl) (by kernel_rfl) (by kernel_rfl) (fun _ _ _ h => h) (Or.inl ⟨by kernel_rfl, ?_⟩) hS ?_
    · intro w5 hSw
      go_simp
    simp only [Act.put, List.setIfInBounds_toArray, List.set_cons_zero, List.set_cons_succ]
    refine wpAnyH_take (i := 15) (oi := { dst := some 32, op := Go.Op.load 32 (Go.Operand.tmp 7), type := 32, pos := "order.go:171", after := #[], guard := none }) (v := .agg (cb y).toArray) rfl (by kernel_rfl) (by kernel_rfl) (by kernel_rfl) (fun _ _ _ h => h) (yieldsIf_load_mid (by kernel_rfl) _ _ rfl (w.heap.size + 1) 0 rfl (cb y) _ (fun w5 hSw => hSw.2.1) Tryz.underlying32 rfl iy) hS ?_
    simp only [Act.put, List.setIfInBounds_toArray, List.set_cons_zero, List.set_cons_succ]
    refine wpAnyH_ready (rs := [6]) (by kernel_rfl) (by simp) ?_
    refine AllReadyH.cons (o := { dst := some 23, op := Go.Op.call { callee := Go.Callee.value (Go.Operand.func 28), args := #[Go.Operand.tmp 22], argTypes := #[32] }, type := 9, pos := "order.go:171", after := #[{ on := 5, ground := Go.Ground.data }], guard := none }) rfl (fun K hK => ?_) AllReadyH.nil
    rw [if_pos (by kernel_rfl)]
    go_simp
    refine ((HSx _).out).mono ?_
    rintro e v1 ⟨rfl, u1⟩
    dsimp only
    refine hK.out _ _ ⟨rng_up hS.1 u1, rng_up hS.2.1 u1, hS.2.2.trans u1⟩ (fun hS1 => ?_)
    clear hK hS u1
    refine wpAnyH_take (i := 7) (oi := { dst := some 24, op := Go.Op.binOp Go.BinOp.add 9 (Go.Operand.tmp 21) (Go.Operand.tmp 23) 9, type := 9, pos := "order.go:171", after := #[{ on := 4, ground := Go.Ground.data }, { on := 6, ground := Go.Ground.data }], guard := none }) (v := .string (p ++ ⟨#[32]⟩ ++ v ++ ⟨#[32]⟩ ++ sx)) rfl (by kernel_rfl) (by kernel_rfl) (by kernel_rfl) (fun _ _ _ h => h) (Or.inl ⟨by kernel_rfl, ?_⟩) hS1 ?_
    · intro w5 hSw
      go_simp
    simp only [Act.put, List.setIfInBounds_toArray, List.set_cons_zero, List.set_cons_succ]
    refine wpAnyH_take (i := 8) (oi := { dst := some 25, op := Go.Op.binOp Go.BinOp.add 9 (Go.Operand.tmp 24) (Go.Operand.const (Go.Value.string { data := #[10] })) 9, type := 9, pos := "order.go:171", after := #[{ on := 7, ground := Go.Ground.data }], guard := none }) (v := .string (p ++ ⟨#[32]⟩ ++ v ++ ⟨#[32]⟩ ++ sx ++ ⟨#[10]⟩)) rfl (by kernel_rfl) (by kernel_rfl) (by kernel_rfl) (fun _ _ _ h => h) (Or.inl ⟨by kernel_rfl, ?_⟩) hS1 ?_
    · intro w5 hSw
      go_simp
    simp only [Act.put, List.setIfInBounds_toArray, List.set_cons_zero, List.set_cons_succ]
    refine wpAnyH_take (i := 10) (oi := { dst := some 27, op := Go.Op.binOp Go.BinOp.add 9 (Go.Operand.tmp 25) (Go.Operand.tmp 26) 9, type := 9, pos := "order.go:171", after := #[{ on := 8, ground := Go.Ground.data }, { on := 9, ground := Go.Ground.data }], guard := none }) (v := .string (p ++ ⟨#[32]⟩ ++ v ++ ⟨#[32]⟩ ++ sx ++ ⟨#[10]⟩ ++ p)) rfl (by kernel_rfl) (by kernel_rfl) (by kernel_rfl) (fun _ _ _ h => h) (Or.inl ⟨by kernel_rfl, ?_⟩) hS1 ?_
    · intro w5 hSw
      go_simp
    simp only [Act.put, List.setIfInBounds_toArray, List.set_cons_zero, List.set_cons_succ]
    refine wpAnyH_take (i := 11) (oi := { dst := some 28, op := Go.Op.binOp Go.BinOp.add 9 (Go.Operand.tmp 27) (Go.Operand.const (Go.Value.string { data := #[32] })) 9, type := 9, pos := "order.go:171", after := #[{ on := 10, ground := Go.Ground.data }], guard := none }) (v := .string (p ++ ⟨#[32]⟩ ++ v ++ ⟨#[32]⟩ ++ sx ++ ⟨#[10]⟩ ++ p ++ ⟨#[32]⟩)) rfl (by kernel_rfl) (by kernel_rfl) (by kernel_rfl) (fun _ _ _ h => h) (Or.inl ⟨by kernel_rfl, ?_⟩) hS1 ?_
    · intro w5 hSw
      go_simp
    simp only [Act.put, List.setIfInBounds_toArray, List.set_cons_zero, List.set_cons_succ]
    refine wpAnyH_take (i := 13) (oi := { dst := some 30, op := Go.Op.binOp Go.BinOp.add 9 (Go.Operand.tmp 28) (Go.Operand.tmp 29) 9, type := 9, pos := "order.go:171", after := #[{ on := 11, ground := Go.Ground.data }, { on := 12, ground := Go.Ground.data }], guard := none }) (v := .string (p ++ ⟨#[32]⟩ ++ v ++ ⟨#[32]⟩ ++ sx ++ ⟨#[10]⟩ ++ p ++ ⟨#[32]⟩ ++ v)) rfl (by kernel_rfl) (by kernel_rfl) (by kernel_rfl) (fun _ _ _ h => h) (Or.inl ⟨by kernel_rfl, ?_⟩) hS1 ?_
    · intro w5 hSw
      go_simp
    simp only [Act.put, List.setIfInBounds_toArray, List.set_cons_zero, List.set_cons_succ]
    refine wpAnyH_take (i := 14) (oi := { dst := some 31, op := Go.Op.binOp Go.BinOp.add 9 (Go.Operand.tmp 30) (Go.Operand.const (Go.Value.string { data := #[47, 103, 111, 46, 109, 111, 100, 32] })) 9, type := 9, pos := "order.go:171", after := #[{ on := 13, ground := Go.Ground.data }], guard := none }) (v := .string (p ++ ⟨#[32]⟩ ++ v ++ ⟨#[32]⟩ ++ sx ++ ⟨#[10]⟩ ++ p ++ ⟨#[32]⟩ ++ v ++ ⟨#[47, 103, 111, 46, 109, 111, 100, 32]⟩)) rfl (by kernel_rfl) (by kernel_rfl) (by kernel_rfl) (fun _ _ _ h => h) (Or.inl ⟨by kernel_rfl, ?_⟩) hS1 ?_
    · intro w5 hSw
      go_simp
    simp only [Act.put, List.setIfInBounds_toArray, List.set_cons_zero, List.set_cons_succ]
    refine wpAnyH_ready (rs := [16]) (by kernel_rfl) (by simp) ?_
    refine AllReadyH.cons (o := { dst := some 33, op := Go.Op.call { callee := Go.Callee.value (Go.Operand.func 28), args := #[Go.Operand.tmp 32], argTypes := #[32] }, type := 9, pos := "order.go:171", after := #[{ on := 15, ground := Go.Ground.data }, { on := 6, ground := Go.Ground.chain }], guard := none }) rfl (fun K hK => ?_) AllReadyH.nil
    rw [if_pos (by kernel_rfl)]
    go_simp
    refine ((HSy _).out).mono ?_
    rintro e v2 ⟨rfl, u2⟩
    dsimp only
    refine hK.out _ _ ⟨rng_up hS1.1 u2, rng_up hS1.2.1 u2, hS1.2.2.trans u2⟩ (fun hS2 => ?_)
    clear hK hS1 u2
    refine wpAnyH_take (i := 17) (oi := { dst := some 34, op := Go.Op.binOp Go.BinOp.add 9 (Go.Operand.tmp 31) (Go.Operand.tmp 33) 9, type := 9, pos := "order.go:171", after := #[{ on := 14, ground := Go.Ground.data }, { on := 16, ground := Go.Ground.data }], guard := none }) (v := .string (p ++ ⟨#[32]⟩ ++ v ++ ⟨#[32]⟩ ++ sx ++ ⟨#[10]⟩ ++ p ++ ⟨#[32]⟩ ++ v ++ ⟨#[47, 103, 111, 46, 109, 111, 100, 32]⟩ ++ sy)) rfl (by kernel_rfl) (by kernel_rfl) (by kernel_rfl) (fun _ _ _ h => h) (Or.inl ⟨by kernel_rfl, ?_⟩) hS2 ?_
    · intro w5 hSw
      go_simp
    simp only [Act.put, List.setIfInBounds_toArray, List.set_cons_zero, List.set_cons_succ]
    refine wpAnyH_take (i := 18) (oi := { dst := some 35, op := Go.Op.binOp Go.BinOp.add 9 (Go.Operand.tmp 34) (Go.Operand.const (Go.Value.string { data := #[10] })) 9, type := 9, pos := "order.go:171", after := #[{ on := 17, ground := Go.Ground.data }], guard := none }) (v := .string (p ++ ⟨#[32]⟩ ++ v ++ ⟨#[32]⟩ ++ sx ++ ⟨#[10]⟩ ++ p ++ ⟨#[32]⟩ ++ v ++ ⟨#[47, 103, 111, 46, 109, 111, 100, 32]⟩ ++ sy ++ ⟨#[10]⟩)) rfl (by kernel_rfl) (by kernel_rfl) (by kernel_rfl) (fun _ _ _ h => h) (Or.inl ⟨by kernel_rfl, ?_⟩) hS2 ?_
    · intro w5 hSw
      go_simp
    simp only [Act.put, List.setIfInBounds_toArray, List.set_cons_zero, List.set_cons_succ]
    refine wpAnyH_ready (rs := [19]) (by kernel_rfl) (by simp) ?_
    refine AllReadyH.cons (o := { dst := some 8, op := Go.Op.assign (Go.Operand.tmp 35), type := 9, pos := "order.go:171", after := #[{ on := 18, ground := Go.Ground.data }, { on := 16, ground := Go.Ground.chain }, { on := 0, ground := Go.Ground.phase }, { on := 1, ground := Go.Ground.phase }, { on := 2, ground := Go.Ground.phase }, { on := 3, ground := Go.Ground.phase }, { on := 4, ground := Go.Ground.phase }, { on := 5, ground := Go.Ground.phase }, { on := 6, ground := Go.Ground.phase }, { on := 7, ground := Go.Ground.phase }, { on := 8, ground := Go.Ground.phase }, { on := 9, ground := Go.Ground.phase }, { on := 10, ground := Go.Ground.phase }, { on := 11, ground := Go.Ground.phase }, { on := 12, ground := Go.Ground.phase }, { on := 13, ground := Go.Ground.phase }, { on := 14, ground := Go.Ground.phase }, { on := 15, ground := Go.Ground.phase }, { on := 16, ground := Go.Ground.phase }, { on := 17, ground := Go.Ground.phase }, { on := 18, ground := Go.Ground.phase }], guard := none }) rfl (fun K hK => ?_) AllReadyH.nil
    rw [if_pos (by kernel_rfl)]
    go_simp
    refine hK.out _ _ hS2 (fun hS3 => ?_)
    clear hK hS2
    refine wpAnyH_ready (rs := [20]) (by kernel_rfl) (by simp) ?_
    refine AllReadyH.cons (o := { dst := some 9, op := Go.Op.assign (Go.Operand.const (Go.Value.int Go.IntKind.i64 0)), type := 3, pos := "order.go:171", after := #[{ on := 19, ground := Go.Ground.chain }, { on := 0, ground := Go.Ground.phase }, { on := 1, ground := Go.Ground.phase }, { on := 2, ground := Go.Ground.phase }, { on := 3, ground := Go.Ground.phase }, { on := 4, ground := Go.Ground.phase }, { on := 5, ground := Go.Ground.phase }, { on := 6, ground := Go.Ground.phase }, { on := 7, ground := Go.Ground.phase }, { on := 8, ground := Go.Ground.phase }, { on := 9, ground := Go.Ground.phase }, { on := 10, ground := Go.Ground.phase }, { on := 11, ground := Go.Ground.phase }, { on := 12, ground := Go.Ground.phase }, { on := 13, ground := Go.Ground.phase }, { on := 14, ground := Go.Ground.phase }, { on := 15, ground := Go.Ground.phase }, { on := 16, ground := Go.Ground.phase }, { on := 17, ground := Go.Ground.phase }, { on := 18, ground := Go.Ground.phase }, { on := 19, ground := Go.Ground.phase }], guard := none }) rfl (fun K hK => ?_) AllReadyH.nil
    rw [if_pos (by kernel_rfl)]
    go_simp
    refine hK.out _ _ hS3 (fun hS4 => ?_)
    clear hK hS3
    refine wpAnyH_done (by kernel_rfl) ?_ _
    have HSZ := Hid.of hS4
    clear hS4
    go_wp2_with fail
    go_ret2
    refine ⟨?_, HSZ.out.2.2⟩
    have e : (p ++ ⟨#[32]⟩ ++ v ++ ⟨#[32]⟩ ++ sx ++ ⟨#[10]⟩ ++ p ++ ⟨#[32]⟩ ++ v ++ ⟨#[47, 103, 111, 46, 109, 111, 100, 32]⟩ ++ sy ++ ⟨#[10]⟩ : ByteArray) = ⟨(recT p.data.toList v.data.toList x y).toArray⟩ := by
      rw [HR2.out]
      simp only [ba_app]
    rw [show vs (recT p.data.toList v.data.toList x y) = .string (p ++ ⟨#[32]⟩ ++ v ++ ⟨#[32]⟩ ++ sx ++ ⟨#[10]⟩ ++ p ++ ⟨#[32]⟩ ++ v ++ ⟨#[47, 103, 111, 46, 109, 111, 100, 32]⟩ ++ sy ++ ⟨#[10]⟩) from congrArg Value.string e.symm, H0.out.1]
    rfl
  · have h0z : (fte p.data.toList v.data.toList != 0) = true := by rw [bne_iff_ne]; exact h0
    have HR2 := Hid.of (show recT p.data.toList v.data.toList x y = [] from if_neg h0)
    generalize hfe : fte p.data.toList v.data.toList = fe at *
    have HFE := Hid.of (And.intro hfe trivial)
    clear h0 hfe
    go_wp2
    go_ret2
    refine ⟨?_, HU2.out⟩
    rw [show vs (recT p.data.toList v.data.toList x y) = .string ⟨(recT p.data.toList v.data.toList x y).toArray⟩ from rfl, HR2.out, HFE.out.1]
    rfl
end Go.Proofs.YtnciglpdjpckiaaGreatDoor
namespace Go.Proofs.YtnciglpdjpckiaaGreatDoor
open Go.RowKit Go.Shelf TextNum ModNum
theorem psm_47 {l : List UInt8} (h2 : (b64R (l.drop 3)).2 = 0) (h3 : (b64R (l.drop 3)).1.length = 32) : l.length = 47 := by
  unfold b64R at h2 h3
  split at h2
  · cases h2
  · rename_i hl
    rw [if_neg hl] at h3
    cases hb : b64D (l.drop 3) with
    | none => rw [hb] at h2; cases h2
    | some x =>
      rw [hb] at h3
      have e := b64_once _ _ hb
      have e2 := congrArg List.length e
      have h4 : x.length = 32 := h3
      rw [b64E_length, h4, List.length_drop] at e2
      omega
theorem two_lines {s a b : List UInt8} (hs : s.length ≤ 1024) : (lnE s = 0 ∧ linesOf s = [a, b]) ↔ pcs 10 s = [a, b, []] := by
  constructor
  · rintro ⟨h1, h2⟩
    have h3 : s = [] ∨ s.getLast? = some 10 := by
      unfold lnE at h1
      rw [if_neg (by omega)] at h1
      split at h1
      · assumption
      · cases h1
    have h4 := join_lines s h3
    have hno := lines_no s
    rw [h2] at h4 hno
    have e : s = a ++ 10 :: (b ++ 10 :: []) := by rw [← h4]; simp [joinL]
    rw [e, pcs_hit (hno a (by simp)), pcs_hit (hno b (by simp))]
    rfl
  · intro h
    have e := jn_pcs 10 s
    rw [h] at e
    have hno : ∀ p ∈ [a, b, ([] : List UInt8)], (10 : UInt8) ∉ p := fun p hp => pcs_no (l := s) (by rw [h]; exact hp)
    have e2 : joinL [a, b] = s := by rw [← e]; simp [joinL, jn]
    refine ⟨?_, ?_⟩
    · unfold lnE
      rw [if_neg (by omega), if_pos (.inr (by rw [← e2, show joinL [a, b] = (a ++ 10 :: b) ++ [10] by simp [joinL], List.getLast?_append]; rfl))]
    · rw [← e2]
      exact lines_join [a, b] (fun x hx => hno x (by simp at hx ⊢; rcases hx with h | h <;> simp [h]))
/-- the words of two lines, as the document reads them -/
theorem two_ref {s : List UInt8} (hs : s.length ≤ 1024) : two s = match pcs 10 s with
    | [a, b, []] => (match tw a, tw b with
      | some x, some y => some (x, y)
      | _, _ => none)
    | _ => none := by
  unfold two
  by_cases h : ∃ a b, pcs 10 s = [a, b, []]
  · obtain ⟨a, b, h⟩ := h
    obtain ⟨h1, h2⟩ := (two_lines hs).2 h
    rw [if_neg (by simp [h1]; exact hs), h2, h]
    rfl
  · have hL : ∀ (o : Option ((List UInt8 × List UInt8 × List UInt8) × (List UInt8 × List UInt8 × List UInt8))), (match pcs 10 s with
      | [a, b, []] => (match tw a, tw b with
        | some x, some y => some (x, y)
        | _, _ => none)
      | _ => none) = none := by
      intro _
      split
      · rename_i a b e; exact absurd ⟨a, b, e⟩ h
      · rfl
    rw [hL none]
    split
    · rfl
    · rename_i h1
      split
      · rename_i a b e
        exact absurd ⟨a, b, (two_lines hs).1 ⟨by
          rcases Decidable.em (lnE s = 0) with h2 | h2
          · exact h2
          · exact absurd (.inr h2) h1, e⟩⟩ h
      · rfl
theorem pcs_two {c : UInt8} (s : List UInt8) : (pcs c s).length = 2 ↔ c ∈ s ∧ c ∉ bhd c s := by
  by_cases h : c ∈ s
  · have e : pcs c s = ahd c s :: pcs c (bhd c s) := by
      have := pcs_hit (c := c) (b := bhd c s) (ahd_no c s)
      rw [← cut_eq h] at this
      exact this
    rw [e]
    by_cases h2 : c ∈ bhd c s
    · have e3 : pcs c (bhd c s) = ahd c (bhd c s) :: pcs c (bhd c (bhd c s)) := by
        have := pcs_hit (c := c) (b := bhd c (bhd c s)) (ahd_no c (bhd c s))
        rw [← cut_eq h2] at this
        exact this
      have : 0 < (pcs c (bhd c (bhd c s))).length := List.length_pos_iff.2 (pcs_ne _ _)
      rw [e3]
      simp [h, h2]
      exact pcs_ne _ _
    · rw [pcs_miss h2]
      simp [h, h2]
  · rw [pcs_miss h]
    simp [h]
theorem pcs_pair {c : UInt8} {s : List UInt8} (h : c ∈ s) (h2 : c ∉ bhd c s) : pcs c s = [ahd c s, bhd c s] := by
  have := pcs_hit (c := c) (b := bhd c s) (ahd_no c s)
  rw [← cut_eq h, pcs_miss h2] at this
  exact this
end Go.Proofs.YtnciglpdjpckiaaGreatDoor
namespace Go.Proofs.YtnciglpdjpckiaaGreatDoor
open Go.RowKit Go.Shelf TextNum ModNum
theorem put32 {x : List UInt8} {i : Nat} (hx : x.length = 32) (hi : i < 32) : (cb (x.take i ++ Z32.drop i)).set i (.int .u8 (x[i].toNat : Int)) = cb (x.take (i + 1) ++ Z32.drop (i + 1)) := by
  have hl : (x.take i).length = i := by rw [List.length_take]; omega
  have e1 : Z32.drop i = 0 :: Z32.drop (i + 1) := by
    rw [List.drop_eq_getElem_cons (by rw [List.length_replicate]; exact hi)]
    simp
  rw [e1, List.take_succ_eq_append_getElem (by omega), cb_append, cb_append, cb_append]
  rw [List.set_append, if_neg (by rw [cb_length, hl]; omega), cb_length, hl, Nat.sub_self]
  simp [cb]
/-- two rows of zeros -/
structure TwoZ (w W : World) : Prop where
  a : At W w.heap.size 32 (cb Z32)
  b : At W (w.heap.size + 1) 32 (cb Z32)
  u : Up w W
theorem twoZ_new (w : World) : TwoZ w ((w.alloc (.cells (cb Z32).toArray 32)).alloc (.cells (cb Z32).toArray 32)) := by
  refine ⟨At.up (at_new w 32 (cb Z32)) ((Up.refl _).alloc _), ?_, ((Up.refl w).alloc _).alloc _⟩
  have := at_new (w.alloc (.cells (cb Z32).toArray 32)) 32 (cb Z32)
  rwa [alloc_size] at this
set_option maxRecDepth 100000 in
set_option maxHeartbeats 1000000 in
theorem RParseSum_walk (s : ByteArray) (w : World) : Calls Tryz.prog 29 #[.string s] w fun e w' => e = .returned (.tuple #[.agg (cb (psm s.data.toList).1).toArray, .int .i64 (psm s.data.toList).2]) ∧ Up w w' := by
  have HR : Hid (psm s.data.toList = if pfx [104, 49, 58] s.data.toList = true ∧ (b64R (s.data.toList.drop 3)).2 = 0 ∧ (b64R (s.data.toList.drop 3)).1.length = 32 then ((b64R (s.data.toList.drop 3)).1, 0) else (Z32, 114)) := rfl
  have HZ := Hid.of (twoZ_new w)
  by_cases h47 : s.size = 47
  · have h47z : ((s.size : Int) != 47) = false := by rw [h47]; rfl
    have HP := fun w' => Hid.of (begins_h1 s (by omega) w')
    have h3z : (3 : Int) ≤ (s.size : Int) := by omega
    cases hp : pfx [104, 49, 58] s.data.toList with
    | false =>
      have HN := Hid.of (HR.out.trans (if_neg (by rw [hp]; rintro ⟨h, _⟩; cases h)))
      rw [hp] at HP
      clear hp HR h47
      go_enter Tryz.func29, Tryz.ntmps29
      go_wp2_with fail
      rw [zlit]
      generalize (w.alloc (.cells (cb Z32).toArray 32)).alloc (.cells (cb Z32).toArray 32) = W0 at *
      refine (HP _).out.mono ?_
      rintro e w1 ⟨rfl, u1⟩
      have HA := Hid.of (HZ.out.a.up u1)
      have HB := Hid.of (HZ.out.b.up u1)
      have HU := Hid.of (HZ.out.u.trans u1)
      clear u1 HZ HP
      dsimp only
      go_wp2_with (with_reducible show wpList _ _ _ ({ dst := _, op := Op.load 32 _, type := _, pos := _, after := _, guard := _ } :: _) _ _; refine Shut.out ?_)
      show wpList _ _ _ _ _ _
      refine wpList_load_mid rfl _ _ rfl (w.heap.size + 1) 0 rfl (cb Z32) _ HB.out.range Tryz.underlying32 rfl (by kernel_rfl) ?_
      simp only [Act.put, List.setIfInBounds_toArray, List.set_cons_zero, List.set_cons_succ]
      go_wp2_with (with_reducible show wpList _ _ _ ({ dst := _, op := Op.store 32 _ _, type := _, pos := _, after := _, guard := _ } :: _) _ _; refine Shut.out ?_)
      show wpList _ _ _ _ _ _
      refine wpList_store_at rfl _ _ _ rfl w.heap.size HA.out (cb Z32) rfl rfl rfl (by kernel_rfl) (cb_all _) fun w8 hA8 hg8 => ?_
      have HA8 := Hid.of hA8
      have HU8 := Hid.of (HU.out.by hg8 (fun g hg => by injection hg with hg; omega))
      clear hA8 hg8
      simp only [Act.put]
      go_wp2
      refine bodyPost_ret (result_cell_tmp Tryz.results29 _ _ w.heap.size (cb Z32) _ rfl rfl HA8.out.range Tryz.underlying32 rfl (by kernel_rfl)) rfl ?_
      rw [HN.out]
      exact ⟨rfl, HU8.out⟩
    | true =>
      obtain ⟨d, hd1, hd2⟩ := ba_ex (s.data.toList.drop 3)
      have hde : s.extract 3 s.size = d := by
        rw [← hd2, ext_str, List.take_of_length_le (by rw [List.length_drop, len_of]; omega)]
      have HD := fun w' => Hid.of (RDecode64_walk d w')
      have HR2 := Hid.of (show psm s.data.toList = if (b64R d.data.toList).2 = 0 ∧ (b64R d.data.toList).1.length = 32 then ((b64R d.data.toList).1, 0) else (Z32, 114) by
        rw [hd1]
        exact HR.out.trans (by simp [hp]))
      rw [hp] at HP
      clear hp HR h47 hd1 hd2
      generalize b64R d.data.toList = r at *
      obtain ⟨x, k⟩ := r
      dsimp only at HR2 HD
      go_enter Tryz.func29, Tryz.ntmps29
      go_wp2_with fail
      rw [zlit]
      generalize (w.alloc (.cells (cb Z32).toArray 32)).alloc (.cells (cb Z32).toArray 32) = W0 at *
      refine (HP _).out.mono ?_
      rintro e w1 ⟨rfl, u1⟩
      have HA1 := Hid.of (HZ.out.a.up u1)
      have HB1 := Hid.of (HZ.out.b.up u1)
      have HU1 := Hid.of (HZ.out.u.trans u1)
      clear u1 HZ HP
      dsimp only
      go_wp2_with fail
      refine (HD _).out.mono ?_
      rintro e w2 ⟨v, rfl, hO, u2⟩
      obtain ⟨va, vc, rfl⟩ := hO.len
      have HS2 := Hid.of hO.sl
      have HLow := Hid.of (fun g hg => (World.ownsRow.lt hO g hg).1)
      have HSz := Hid.of (lt_of_at HB1.out)
      have HA := Hid.of (HA1.out.up u2)
      have HB := Hid.of (HB1.out.up u2)
      have HU := Hid.of (HU1.out.trans u2)
      clear hO u2 HA1 HB1 HU1 HD
      dsimp only
      by_cases h0 : k = 0 ∧ x.length = 32
      · have HN := Hid.of (HR2.out.trans (if_pos h0))
        obtain ⟨rfl, hx⟩ := h0
        have HX := Hid.of hx
        obtain ⟨a', c', e', hcc, hcl⟩ := HS2.out
        injection e' with e1 e2 e3
        subst e1 e3
        rcases hcl with h | ⟨gb, off, rfl, hgb, hcl⟩
        · rw [h] at hx; cases hx
        · rw [hx] at hcc ⊢
          have HCL := Hid.of hcl
          have hccz : (32 : Int) ≤ (vc : Int) := by omega
          clear hx hcl HS2 HR2 hcc
          go_wp2
          go_loopw [7] (fun v7 wr => ∃ i : Nat, v7 = .int .i64 (i : Int) ∧ i ≤ 32 ∧ Hid (At wr (w.heap.size + 1) 32 (cb (x.take i ++ Z32.drop i)) ∧ At wr w.heap.size 32 (cb Z32) ∧ Up w wr ∧ ∀ j (h : j < x.length), wr.cell? ⟨gb, off + j, none⟩ = some (.int .u8 (x[j].toNat : Int)))) (fun v7 _ => 32 - (intOf v7).toNat)
          case atStart => exact ⟨0, rfl, by omega, HB.out, HA.out, HU.out, HCL.out⟩
          case round =>
            obtain ⟨i, rfl, hi, hI⟩ := hrel
            by_cases hlt : i < 32
            · have hltz : (i : Int) < 32 := by omega
              have hil : i < x.length := by rw [HX.out]; exact hlt
              have hc := hI.out.2.2.2 i hil
              have hcz : (i : Int) < (32 : Int) := hltz
              have HW := Hid.of (put32 HX.out hlt)
              have hth : wr.cell? ⟨w.heap.size + 1, i, none⟩ = some (.int .u8 ((x.take i ++ Z32.drop i)[i]'(by rw [List.length_append, List.length_take, List.length_drop, HX.out, List.length_replicate]; omega)).toNat) := hI.out.1.cell (cb_get _)
              have hfz := hI.out.1.thaw i
              generalize ((x.take i ++ Z32.drop i)[i]'(by rw [List.length_append, List.length_take, List.length_drop, HX.out, List.length_replicate]; omega)).toNat = old at hth
              have HNext := Hid.of (show At (wr.setCell ⟨w.heap.size + 1, i, none⟩ (.int .u8 (x[i].toNat : Int))) (w.heap.size + 1) 32 (cb (x.take (i + 1) ++ Z32.drop (i + 1))) ∧ At (wr.setCell ⟨w.heap.size + 1, i, none⟩ (.int .u8 (x[i].toNat : Int))) w.heap.size 32 (cb Z32) ∧ Up w (wr.setCell ⟨w.heap.size + 1, i, none⟩ (.int .u8 (x[i].toNat : Int))) ∧ ∀ j (h : j < x.length), (wr.setCell ⟨w.heap.size + 1, i, none⟩ (.int .u8 (x[i].toNat : Int))).cell? ⟨gb, off + j, none⟩ = some (.int .u8 (x[j].toNat : Int)) from by
                have hg := grown_at wr (w.heap.size + 1) i (.int .u8 (x[i].toNat : Int))
                refine ⟨by rw [← HW.out]; exact hI.out.1.set i _, hI.out.2.1.by hg (fun h => by injection h with h; omega), hI.out.2.2.1.by hg (fun g h => by injection h with h; omega), fun j hj => hg.cell (hI.out.2.2.2 j hj) (fun h => by
                  injection h with h
                  have h9 : gb = w.heap.size + 1 := h
                  have h1 := HLow.out gb rfl
                  have h2 := HSz.out
                  omega)⟩)
              generalize hxi : x[i] = y at *
              clear hI
              go_wp2
              go_roundw
              case rel => exact ⟨i + 1, by go_num, by omega, HNext.out⟩
              case measure => simp [intOf]; omega
            · have hltz : ¬ (i : Int) < 32 := by omega
              have HB9 := Hid.of (show At wr (w.heap.size + 1) 32 (cb x) by
                have := hI.out.1
                rwa [List.take_of_length_le (by rw [HX.out]; omega), List.drop_of_length_le (by rw [List.length_replicate]; omega), List.append_nil] at this)
              have HA9 := Hid.of hI.out.2.1
              have HU9 := Hid.of hI.out.2.2.1
              clear hI
              go_wp2_with (with_reducible show wpList _ _ _ ({ dst := _, op := Op.load 32 _, type := _, pos := _, after := _, guard := _ } :: _) _ _; refine Shut.out ?_)
              show wpList _ _ _ _ _ _
              refine wpList_load_mid rfl _ _ rfl (w.heap.size + 1) 0 rfl (cb x) _ HB9.out.range Tryz.underlying32 rfl (by rw [cb_length, HX.out]; kernel_rfl) ?_
              simp only [Act.put, List.setIfInBounds_toArray, List.set_cons_zero, List.set_cons_succ]
              go_wp2_with (with_reducible show wpList _ _ _ ({ dst := _, op := Op.store 32 _ _, type := _, pos := _, after := _, guard := _ } :: _) _ _; refine Shut.out ?_)
              show wpList _ _ _ _ _ _
              refine wpList_store_at rfl _ _ _ rfl w.heap.size HA9.out (cb x) rfl rfl (by rw [cb_length, cb_length]; exact HX.out) (by rw [List.size_toArray, cb_length, HX.out]; kernel_rfl) (cb_all _) fun w8 hA8 hg8 => ?_
              have HA8 := Hid.of hA8
              have HU8 := Hid.of (HU9.out.by hg8 (fun g hg => by injection hg with hg; omega))
              clear hA8 hg8
              simp only [Act.put]
              go_wp2
              refine bodyPost_ret (result_cell_tmp Tryz.results29 _ _ w.heap.size (cb x) _ rfl rfl HA8.out.range Tryz.underlying32 rfl (by rw [cb_length, HX.out]; kernel_rfl)) rfl ?_
              rw [HN.out]
              exact ⟨rfl, HU8.out⟩
      · have HN := Hid.of (HR2.out.trans (if_neg h0))
        clear HR2 HS2
        generalize x.length = xl at *
        by_cases hk : k = 0
        · subst hk
          have hxz : ((xl : Int) != 32) = true := by rw [bne_iff_ne]; intro h; exact h0 ⟨rfl, by omega⟩
          clear h0
          go_wp2_with (with_reducible show wpList _ _ _ ({ dst := _, op := Op.load 32 _, type := _, pos := _, after := _, guard := _ } :: _) _ _; refine Shut.out ?_)
          show wpList _ _ _ _ _ _
          refine wpList_load_mid rfl _ _ rfl (w.heap.size + 1) 0 rfl (cb Z32) _ HB.out.range Tryz.underlying32 rfl (by kernel_rfl) ?_
          simp only [Act.put, List.setIfInBounds_toArray, List.set_cons_zero, List.set_cons_succ]
          go_wp2_with (with_reducible show wpList _ _ _ ({ dst := _, op := Op.store 32 _ _, type := _, pos := _, after := _, guard := _ } :: _) _ _; refine Shut.out ?_)
          show wpList _ _ _ _ _ _
          refine wpList_store_at rfl _ _ _ rfl w.heap.size HA.out (cb Z32) rfl rfl rfl (by kernel_rfl) (cb_all _) fun w8 hA8 hg8 => ?_
          have HA8 := Hid.of hA8
          have HU8 := Hid.of (HU.out.by hg8 (fun g hg => by injection hg with hg; omega))
          clear hA8 hg8
          simp only [Act.put]
          go_wp2
          refine bodyPost_ret (result_cell_tmp Tryz.results29 _ _ w.heap.size (cb Z32) _ rfl rfl HA8.out.range Tryz.underlying32 rfl (by kernel_rfl)) rfl ?_
          rw [HN.out]
          exact ⟨rfl, HU8.out⟩
        · have hkz : (k != 0) = true := by rw [bne_iff_ne]; exact hk
          clear h0 hk
          go_wp2_with (with_reducible show wpList _ _ _ ({ dst := _, op := Op.load 32 _, type := _, pos := _, after := _, guard := _ } :: _) _ _; refine Shut.out ?_)
          show wpList _ _ _ _ _ _
          refine wpList_load_mid rfl _ _ rfl (w.heap.size + 1) 0 rfl (cb Z32) _ HB.out.range Tryz.underlying32 rfl (by kernel_rfl) ?_
          simp only [Act.put, List.setIfInBounds_toArray, List.set_cons_zero, List.set_cons_succ]
          go_wp2_with (with_reducible show wpList _ _ _ ({ dst := _, op := Op.store 32 _ _, type := _, pos := _, after := _, guard := _ } :: _) _ _; refine Shut.out ?_)
          show wpList _ _ _ _ _ _
          refine wpList_store_at rfl _ _ _ rfl w.heap.size HA.out (cb Z32) rfl rfl rfl (by kernel_rfl) (cb_all _) fun w8 hA8 hg8 => ?_
          have HA8 := Hid.of hA8
          have HU8 := Hid.of (HU.out.by hg8 (fun g hg => by injection hg with hg; omega))
          clear hA8 hg8
          simp only [Act.put]
          go_wp2
          refine bodyPost_ret (result_cell_tmp Tryz.results29 _ _ w.heap.size (cb Z32) _ rfl rfl HA8.out.range Tryz.underlying32 rfl (by kernel_rfl)) rfl ?_
          rw [HN.out]
          exact ⟨rfl, HU8.out⟩
  · have h47z : ((s.size : Int) != 47) = true := by rw [bne_iff_ne]; omega
    have HN := Hid.of (HR.out.trans (if_neg (by rintro ⟨_, h2, h3⟩; have := psm_47 h2 h3; rw [len_of] at this; exact h47 this)))
    clear HR h47
    go_enter Tryz.func29, Tryz.ntmps29
    go_wp2_with (with_reducible show wpList _ _ _ ({ dst := _, op := Op.load 32 _, type := _, pos := _, after := _, guard := _ } :: _) _ _; refine Shut.out ?_)
    show wpList _ _ _ _ _ _
    rw [zlit]
    generalize (w.alloc (.cells (cb Z32).toArray 32)).alloc (.cells (cb Z32).toArray 32) = W0 at *
    have HA := Hid.of HZ.out.a
    have HB := Hid.of HZ.out.b
    have HU := Hid.of HZ.out.u
    clear HZ
    refine wpList_load_mid rfl _ _ rfl (w.heap.size + 1) 0 rfl (cb Z32) _ HB.out.range Tryz.underlying32 rfl (by kernel_rfl) ?_
    simp only [Act.put, List.setIfInBounds_toArray, List.set_cons_zero, List.set_cons_succ]
    go_wp2_with (with_reducible show wpList _ _ _ ({ dst := _, op := Op.store 32 _ _, type := _, pos := _, after := _, guard := _ } :: _) _ _; refine Shut.out ?_)
    show wpList _ _ _ _ _ _
    refine wpList_store_at rfl _ _ _ rfl w.heap.size HA.out (cb Z32) rfl rfl rfl (by kernel_rfl) (cb_all _) fun w8 hA8 hg8 => ?_
    have HA8 := Hid.of hA8
    have HU8 := Hid.of (HU.out.by hg8 (fun g hg => by injection hg with hg; omega))
    clear hA8 hg8
    simp only [Act.put]
    go_wp2
    refine bodyPost_ret (result_cell_tmp Tryz.results29 _ _ w.heap.size (cb Z32) _ rfl rfl HA8.out.range Tryz.underlying32 rfl (by kernel_rfl)) rfl ?_
    rw [HN.out]
    exact ⟨rfl, HU8.out⟩
end Go.Proofs.YtnciglpdjpckiaaGreatDoor
namespace Go.Proofs.YtnciglpdjpckiaaGreatDoor
open Go.RowKit Go.Shelf TextNum ModNum
set_option maxRecDepth 100000 in
set_option maxHeartbeats 1000000 in
theorem RParseKey_walk (s : ByteArray) (hs : s.size ≤ 1048576) (w : World) (hT : TK w) : Calls Tryz.prog 26 #[.string s] w fun e w' => e = .returned (.tuple #[vs (pkP s.data.toList), vs (pkV s.data.toList), .int .i64 (pkE s.data.toList)]) ∧ Up w w' := by
  have HTK := Hid.of hT
  have HP := Hid.of (Pieces_walk s 64 hs w)
  rw [show ((64 : UInt8).toNat : Int) = 64 from rfl] at HP
  have HR : Hid (pkE s.data.toList = if 64 ∉ s.data.toList ∨ 64 ∈ bhd 64 s.data.toList then 113 else fte (ahd 64 s.data.toList) (bhd 64 s.data.toList)) := rfl
  have HR2 : Hid (pkP s.data.toList = (if pkE s.data.toList = 0 then ahd 64 s.data.toList else []) ∧ pkV s.data.toList = (if pkE s.data.toList = 0 then bhd 64 s.data.toList else [])) := ⟨rfl, rfl⟩
  clear hT
  go_enter Tryz.func26, Tryz.ntmps26
  go_wp2_with fail
  refine HP.out.mono ?_
  clear HP
  rintro e w1 ⟨v, rfl, h1, u1⟩
  have H1 := Hid.of u1
  by_cases h2 : (pcs 64 s.data.toList).length = 2
  · have h3 := (pcs_two s.data.toList).1 h2
    have hpp := pcs_pair h3.1 h3.2
    rw [if_neg (by rintro (h | h); exact h h3.1; exact h3.2 h)] at HR
    rw [hpp] at h1
    obtain ⟨x0, hx1, hx2⟩ := ba_ex (ahd 64 s.data.toList)
    obtain ⟨x1, hy1, hy2⟩ := ba_ex (bhd 64 s.data.toList)
    have hsl := h1.sl
    obtain ⟨a, cc, rfl, hcc, hcl⟩ := hsl
    obtain ⟨b, off, rfl, hc0, hc1⟩ : ∃ b off, a = some ⟨b, off, none⟩ ∧ w1.cell? ⟨b, off, none⟩ = some (.string x0) ∧ w1.cell? ⟨b, off + 1, none⟩ = some (.string x1) := by
      rcases hcl with h | ⟨b, off, rfl, _, hc⟩
      · cases h
      · have g0 := hc 0 (by simp)
        have g1 := hc 1 (by simp)
        simp only [List.getElem_cons_zero, List.getElem_cons_succ, hx2, hy2, Nat.add_zero] at g0 g1
        exact ⟨b, off, rfl, g0, g1⟩
    have hccz : (2 : Int) ≤ (cc : Int) := by simp at hcc; omega
    have HF := fun w' => fun (u : Up w w') => Hid.of (Fits_walk x0 x1 w' (HTK.out.up u))
    rw [hx1, hy1, ← HR.out] at HF
    rw [← hx1, ← hy1] at HR2
    clear h3 hpp h1 u1 hcl hcc h2
    show match Ending.returned (Value.slice (some ⟨b, off, none⟩) 2 cc), w1 with
      | _, _ => _
    dsimp only
    generalize hpk : pkE s.data.toList = f at *
    have HPK := Hid.of hpk
    clear hpk
    go_wp2
    refine wp_region_held_drew (S := fun w2 => Up w1 w2) (by kernel_rfl) ((Up.refl w1).drew) (fun hS => ?_)
    refine wpAnyH_take (i := 0) (oi := { dst := some 12, op := Go.Op.move (Go.Operand.tmp 5), type := 22, pos := "ref.go:350", after := #[], guard := none }) (v := .slice (some ⟨b, off, none⟩) 2 cc) rfl (by kernel_rfl) (by kernel_rfl) (by kernel_rfl) (fun _ _ _ h => h) (Or.inl ⟨by kernel_rfl, ?_⟩) hS ?_
    · intro w5 hSw
      go_simp
    simp only [Act.put, List.setIfInBounds_toArray, List.set_cons_zero, List.set_cons_succ]
    refine wpAnyH_take (i := 1) (oi := { dst := some 13, op := Go.Op.indexAddr 22 (Go.Operand.tmp 12) (Go.Operand.const (Go.Value.int Go.IntKind.i64 0)), type := 0, pos := "ref.go:350", after := #[{ on := 0, ground := Go.Ground.data }], guard := none }) (v := .pointer (some ⟨b, off, none⟩)) rfl (by kernel_rfl) (by kernel_rfl) (by kernel_rfl) (fun _ _ _ h => h) (Or.inl ⟨by kernel_rfl, ?_⟩) hS ?_
    · intro w5 hSw
      go_simp
    simp only [Act.put, List.setIfInBounds_toArray, List.set_cons_zero, List.set_cons_succ]
    refine wpAnyH_take (i := 2) (oi := { dst := some 14, op := Go.Op.load 9 (Go.Operand.tmp 13), type := 9, pos := "ref.go:350", after := #[{ on := 1, ground := Go.Ground.data }], guard := none }) (v := .string x0) rfl (by kernel_rfl) (by kernel_rfl) (by kernel_rfl) (fun _ _ _ h => h) (Or.inl ⟨by kernel_rfl, ?_⟩) hS ?_
    · intro w5 hSw
      have hq := hSw.cell hc0
      go_simp
    simp only [Act.put, List.setIfInBounds_toArray, List.set_cons_zero, List.set_cons_succ]
    refine wpAnyH_take (i := 3) (oi := { dst := some 15, op := Go.Op.move (Go.Operand.tmp 5), type := 22, pos := "ref.go:350", after := #[], guard := none }) (v := .slice (some ⟨b, off, none⟩) 2 cc) rfl (by kernel_rfl) (by kernel_rfl) (by kernel_rfl) (fun _ _ _ h => h) (Or.inl ⟨by kernel_rfl, ?_⟩) hS ?_
    · intro w5 hSw
      go_simp
    simp only [Act.put, List.setIfInBounds_toArray, List.set_cons_zero, List.set_cons_succ]
    refine wpAnyH_take (i := 4) (oi := { dst := some 16, op := Go.Op.indexAddr 22 (Go.Operand.tmp 15) (Go.Operand.const (Go.Value.int Go.IntKind.i64 1)), type := 0, pos := "ref.go:350", after := #[{ on := 3, ground := Go.Ground.data }], guard := none }) (v := .pointer (some ⟨b, off + 1, none⟩)) rfl (by kernel_rfl) (by kernel_rfl) (by kernel_rfl) (fun _ _ _ h => h) (Or.inl ⟨by kernel_rfl, ?_⟩) hS ?_
    · intro w5 hSw
      go_simp
    simp only [Act.put, List.setIfInBounds_toArray, List.set_cons_zero, List.set_cons_succ]
    refine wpAnyH_take (i := 5) (oi := { dst := some 17, op := Go.Op.load 9 (Go.Operand.tmp 16), type := 9, pos := "ref.go:350", after := #[{ on := 4, ground := Go.Ground.data }], guard := none }) (v := .string x1) rfl (by kernel_rfl) (by kernel_rfl) (by kernel_rfl) (fun _ _ _ h => h) (Or.inl ⟨by kernel_rfl, ?_⟩) hS ?_
    · intro w5 hSw
      have hq := hSw.cell hc1
      go_simp
    simp only [Act.put, List.setIfInBounds_toArray, List.set_cons_zero, List.set_cons_succ]
    refine wpAnyH_ready (rs := [6]) (by kernel_rfl) (by simp) ?_
    refine AllReadyH.cons (o := { dst := some 18, op := Go.Op.call { callee := Go.Callee.value (Go.Operand.func 51), args := #[Go.Operand.tmp 14, Go.Operand.tmp 17], argTypes := #[9, 9] }, type := 3, pos := "ref.go:350", after := #[{ on := 2, ground := Go.Ground.data }, { on := 5, ground := Go.Ground.data }], guard := none }) rfl (fun K hK => ?_) AllReadyH.nil
    rw [if_pos (by kernel_rfl)]
    go_simp
    refine (HF _ (H1.out.trans hS)).out.mono ?_
    rintro e v1 ⟨rfl, u1⟩
    dsimp only
    refine hK.out _ _ (hS.trans u1) (fun hS1 => ?_)
    clear hK hS
    refine wpAnyH_ready (rs := [7]) (by kernel_rfl) (by simp) ?_
    refine AllReadyH.cons (o := { dst := some 6, op := Go.Op.assign (Go.Operand.tmp 18), type := 3, pos := "ref.go:350", after := #[{ on := 6, ground := Go.Ground.data }, { on := 6, ground := Go.Ground.chain }, { on := 0, ground := Go.Ground.phase }, { on := 1, ground := Go.Ground.phase }, { on := 2, ground := Go.Ground.phase }, { on := 3, ground := Go.Ground.phase }, { on := 4, ground := Go.Ground.phase }, { on := 5, ground := Go.Ground.phase }, { on := 6, ground := Go.Ground.phase }], guard := none }) rfl (fun K hK => ?_) AllReadyH.nil
    rw [if_pos (by kernel_rfl)]
    go_simp
    refine hK.out _ _ hS1 (fun hS2 => ?_)
    clear hK hS1
    refine wpAnyH_done (by kernel_rfl) ?_ _
    have H4 := Hid.of hS2
    clear hS2
    by_cases h0 : f = 0
    · subst h0
      rw [if_pos rfl, if_pos rfl] at HR2
      have mixed : Tryz.prog.follows .mixedOrders = true := by kernel_rfl
      have g0 := H4.out.cell hc0
      have g1 := H4.out.cell hc1
      have HV := Hid.of (And.intro hx2 hy2)
      go_wp2
      go_region
      go_wp2
      go_ret3
      refine ⟨?_, (H1.out.trans H4.out).drew⟩
      rw [HPK.out, HR2.out.1, HR2.out.2]
      rfl
    · have hz : (f != 0) = true := by rw [bne_iff_ne]; exact h0
      rw [if_neg h0, if_neg h0] at HR2
      clear h0
      go_wp2
      go_ret3
      refine ⟨?_, H1.out.trans H4.out⟩
      rw [HPK.out, HR2.out.1, HR2.out.2]
      rfl
  · have h2z : (((pcs 64 s.data.toList).length : Int) != 2) = true := by rw [bne_iff_ne]; omega
    have HE := Hid.of (show pkE s.data.toList = 113 by
      rw [HR.out, if_pos]
      rcases Decidable.em ((64 : UInt8) ∈ s.data.toList) with h | h
      · rcases Decidable.em ((64 : UInt8) ∈ bhd 64 s.data.toList) with h' | h'
        · exact .inr h'
        · exact absurd ((pcs_two s.data.toList).2 ⟨h, h'⟩) h2
      · exact .inl h)
    rw [HE.out] at HR2
    obtain ⟨a, cc, rfl⟩ := h1.sl.len
    generalize (pcs 64 s.data.toList).length = n at *
    clear h2 h1 u1 HR
    dsimp only
    go_wp2
    go_ret3
    refine ⟨?_, H1.out⟩
    rw [HE.out, HR2.out.1, HR2.out.2]
    rfl
end Go.Proofs.YtnciglpdjpckiaaGreatDoor
namespace Go.Proofs.YtnciglpdjpckiaaGreatDoor
open Go.RowKit Go.Shelf TextNum ModNum
theorem wpList_appSS {ops : Array Oper} {rest : List Oper} {o : Oper} {a : Act} {w : World} {Q : Exit → Act → World → Prop} (hgd : o.guard = none) (s x : Operand)
    (ho : o.op = .call { callee := .builtin .append, args := #[s, x], argTypes := #[22, 22] }) (B : Nat) (v : Value) (xs ys : List (List UInt8)) (hs : a.eval s = v) (hown : OwnS w B v xs)
    (ad : Addr) (c n : Nat) (hn3 : n = ys.length) (hx : a.eval x = .slice (some ad) n c) (hm : ∀ j u, (cst ys)[j]? = some u → w.cell? (ad.add j) = some u) (hn : xs.length + ys.length ≤ 1099511627776) (hB : B ≤ w.heap.size)
    (h : ∀ v' w', OwnS w' B v' (xs ++ ys) → Below B w w' → wpList Tryz.prog ops Q rest (a.put o.dst v') w') : wpList Tryz.prog ops Q (o :: rest) a w := by
  subst hn3
  obtain ⟨i0, hi, hz0, hz1, hz2⟩ := info_parts Tryz.infoStr
  refine wpList_append_own w hgd s x 22 ho B 9 i0 (.string ⟨#[]⟩) 1 16 Tryz.underlying22 hi hz0 hz1 hz2 rfl (by decide) v xs.length (cst xs) hs hown ad ys.length c (cst ys) hx (by simp [cst]) hm (cst_one ys) (by unfold maxLen; omega) (by omega) hB ?_
  intro v' w' h1 h2 _
  refine h v' w' ?_ ((Below.refl B w).grown h2 hB (fun k hk => (World.ownsRow.lt hown k hk).1))
  unfold OwnS
  rw [List.length_append, List.map_append]
  exact h1
abbrev tw3 (x : List UInt8 × List UInt8 × List UInt8) : List (List UInt8) := [x.1, x.2.1, x.2.2]
/-- what the document's six answers -/
def SIX (s : List UInt8) (w : World) (e : Ending) (w' : World) : Prop := ∃ v, e = .returned (.tuple #[v, .bool (two s).isSome]) ∧ (∃ a n c, v = .slice a n c) ∧ (∀ x y, two s = some (x, y) → SlS w' v (tw3 x ++ tw3 y)) ∧ Up w w'
theorem SIX.no {s : List UInt8} {w w' : World} {a : Option Addr} {n c : Nat} (h : two s = none) (u : Up w w') : SIX s w (.returned (.tuple #[.slice a n c, .bool false])) w' :=
  ⟨_, by rw [h]; rfl, ⟨a, n, c, rfl⟩, (fun x y hx => by rw [h] at hx; cases hx), u⟩
theorem tw_none3 {l : List UInt8} (h : (pcs 32 l).length ≠ 3) : tw l = none := by
  unfold tw
  split
  · rename_i a b c e; rw [e] at h; exact absurd rfl h
  · rfl
theorem tw_of {l a b c : List UInt8} (h : pcs 32 l = [a, b, c]) : tw l = if a = [] ∨ b = [] ∨ c = [] then none else some (a, b, c) := by
  unfold tw
  rw [h]
theorem emp_iff (q : ByteArray) : q.toList.isEmpty = decide (q.data.toList = []) := by
  rw [emp_of]
  cases q.data.toList <;> simp
/-- three texts of a list that is read -/
theorem SlS.three {w : World} {v : Value} {a b c : List UInt8} (h : SlS w v [a, b, c]) : ∃ g off cc x y z, v = .slice (some ⟨g, off, none⟩) 3 cc ∧ 3 ≤ cc ∧ w.cell? ⟨g, off, none⟩ = some (.string x) ∧ w.cell? ⟨g, off + 1, none⟩ = some (.string y) ∧ w.cell? ⟨g, off + 2, none⟩ = some (.string z) ∧ x.data.toList = a ∧ y.data.toList = b ∧ z.data.toList = c := by
  obtain ⟨ad, cc, rfl, hcc, hcl⟩ := h
  rcases hcl with h | ⟨g, off, rfl, _, hc⟩
  · cases h
  · exact ⟨g, off, cc, ⟨a.toArray⟩, ⟨b.toArray⟩, ⟨c.toArray⟩, rfl, hcc, hc 0 (by simp), hc 1 (by simp), hc 2 (by simp), rfl, rfl, rfl⟩
theorem three_cells {w : World} {g off : Nat} {p q r : ByteArray} (h0 : w.cell? ⟨g, off, none⟩ = some (.string p)) (h1 : w.cell? ⟨g, off + 1, none⟩ = some (.string q)) (h2 : w.cell? ⟨g, off + 2, none⟩ = some (.string r)) : ∀ j u, (cst [p.data.toList, q.data.toList, r.data.toList])[j]? = some u → w.cell? ((⟨g, off, none⟩ : Addr).add j) = some u := by
  intro j u hu
  rw [add_plain]
  match j, hu with
  | 0, hu => exact h0.trans hu
  | 1, hu => exact h1.trans hu
  | 2, hu => exact h2.trans hu
set_option maxRecDepth 100000 in
set_option maxHeartbeats 2000000 in
theorem six_walk (s : ByteArray) (hs : s.size ≤ 1024) (w : World) : Calls Tryz.prog 60 #[.string s] w (SIX s.data.toList w) := by
  have HR := Hid.of (two_ref (s := s.data.toList) (by rw [len_of]; exact hs))
  have HP := Hid.of (Pieces_walk s 10 (by omega) w)
  rw [show ((10 : UInt8).toNat : Int) = 10 from rfl] at HP
  go_enter Tryz.func60, Tryz.ntmps60
  go_wp2_with fail
  refine HP.out.mono ?_
  clear HP
  rintro e w1 ⟨v, rfl, h1, u1⟩
  have H1 := Hid.of u1
  have hS := h1.sl
  have hb : ∀ x ∈ pcs 10 s.data.toList, x.length ≤ 1048576 := fun x hx => by
    have : x.length ≤ s.data.toList.length := pcs_sub (c := 10) hx
    rw [len_of] at this
    omega
  clear u1 h1
  generalize hP : pcs 10 s.data.toList = ps at *
  clear hP
  by_cases h3 : ps.length = 3
  · match ps, h3 with
    | [a, b, c], _ =>
      obtain ⟨g, off, cc, xa, xb, xc, rfl, hcc, ga, gb, gc, ea, eb, ec⟩ := hS.three
      have hccz : (3 : Int) ≤ (cc : Int) := by omega
      clear hS
      by_cases hc0 : c = []
      · have hce : xc.toList.isEmpty = true := by rw [emp_iff, ec, hc0]; rfl
        subst hc0
        have HR2 := Hid.of (show two s.data.toList = (match tw a, tw b with
          | some x, some y => some (x, y)
          | _, _ => none) from HR.out)
        rw [← ea, ← eb] at HR2
        have HLA := Hid.of (And.intro (show xa.size ≤ 1048576 by rw [← len_of, ea]; exact hb a (by simp)) (show xb.size ≤ 1048576 by rw [← len_of, eb]; exact hb b (by simp)))
        clear HR ea eb ec hb
        dsimp only
        go_wp2
        go_loopw [4, 6, 7] (fun v4 v6 _ wr => ∃ i : Nat, v6 = .int .i64 (i : Int) ∧ i ≤ 2 ∧ Hid (∃ ws, OwnS wr w1.heap.size v4 ws ∧ Up w1 wr ∧ ws.length ≤ 6 ∧ (i = 0 → ws = []) ∧ (i = 1 → ∃ x, tw xa.data.toList = some x ∧ ws = tw3 x) ∧ (i = 2 → ∃ x y, tw xa.data.toList = some x ∧ tw xb.data.toList = some y ∧ ws = tw3 x ++ tw3 y))) (fun _ v6 _ _ => 2 - (intOf v6).toNat)
        case atStart => exact ⟨0, rfl, by omega, [], ownS_nil _ _, Up.refl _, by simp, (fun _ => rfl), (fun h => by cases h), (fun h => by cases h)⟩
        case round =>
          obtain ⟨i, rfl, hi, hI⟩ := hrel
          obtain ⟨ws, hO, hU, hwl, hw0, hw1, hw2⟩ := hI.out
          obtain ⟨a4, c4, ev⟩ := hO.sl.len
          subst ev
          clear hI
          by_cases hi0 : i = 0
          · subst hi0
            have HW0 := Hid.of (hw0 rfl)
            clear hw0 hw1 hw2
            have HPc := Hid.of (Pieces_walk xa 32 HLA.out.1 wr)
            rw [show ((32 : UInt8).toNat : Int) = 32 from rfl] at HPc
            have hgx := hU.cell ga
            have HNo := Hid.of (show tw xa.data.toList = none → two s.data.toList = none from fun h => by
              rw [HR2.out, h])
            have HK := Hid.of (And.intro hO (And.intro hU hwl))
            clear hO hU
            go_wp2_with fail
            refine HPc.out.mono ?_
            clear HPc
            rintro e w2 ⟨v2, rfl, h2, u2⟩
            have H2 := Hid.of (And.intro (HK.out.1.up u2) (HK.out.2.1.trans u2))
            have hS2 := h2.sl
            clear h2 u2
            have HTw3 := Hid.of (fun (h : (pcs 32 xa.data.toList).length ≠ 3) => tw_none3 h)
            have HTwo := Hid.of (fun (p q r : List UInt8) (h : pcs 32 xa.data.toList = [p, q, r]) => tw_of h)
            generalize pcs 32 xa.data.toList = qs at *
            by_cases hq3 : qs.length = 3
            · match qs, hq3 with
              | [p0, q0, r0], _ =>
                obtain ⟨g2, off2, cc2, p, q, r, rfl, hcc2, c0, c1, c2, e0, e1, e2⟩ := hS2.three
                have hcc2z : (3 : Int) ≤ (cc2 : Int) := by omega
                have HTW0 := Hid.of (HTwo.out p0 q0 r0 rfl)
                rw [← e0, ← e1, ← e2] at HTW0 hS2
                have HS3 := Hid.of hS2
                clear HTwo HTw3 hS2 hcc2
                dsimp only
                by_cases hh : p.data.toList = []
                · have hep : p.toList.isEmpty = true := by rw [emp_iff, hh]; rfl
                  have HN := Hid.of (HNo.out (by rw [HTW0.out, if_pos (.inl hh)]))
                  clear hh
                  go_wp2
                  go_ret2
                  exact SIX.no HN.out (H1.out.trans H2.out.2)
                have hep : p.toList.isEmpty = false := by rw [emp_iff]; simpa using hh
                have HHp := Hid.of hh
                clear hh
                by_cases hh : q.data.toList = []
                · have heq : q.toList.isEmpty = true := by rw [emp_iff, hh]; rfl
                  have HN := Hid.of (HNo.out (by rw [HTW0.out, if_pos (.inr (.inl hh))]))
                  clear hh
                  go_wp2
                  go_ret2
                  exact SIX.no HN.out (H1.out.trans H2.out.2)
                have heq : q.toList.isEmpty = false := by rw [emp_iff]; simpa using hh
                have HHq := Hid.of hh
                clear hh
                by_cases hh : r.data.toList = []
                · have her : r.toList.isEmpty = true := by rw [emp_iff, hh]; rfl
                  have HN := Hid.of (HNo.out (by rw [HTW0.out, if_pos (.inr (.inr hh))]))
                  clear hh
                  go_wp2
                  go_ret2
                  exact SIX.no HN.out (H1.out.trans H2.out.2)
                have her : r.toList.isEmpty = false := by rw [emp_iff]; simpa using hh
                have HHr := Hid.of hh
                clear hh
                have HTW := Hid.of (show tw xa.data.toList = some (p.data.toList, q.data.toList, r.data.toList) by rw [HTW0.out, if_neg (by rintro (h | h | h); exact HHp.out h; exact HHq.out h; exact HHr.out h)])
                go_wp2_with (with_reducible show wpList _ _ _ ({ dst := _, op := Op.call { callee := Callee.builtin Builtin.append, args := _, argTypes := _ }, type := _, pos := _, after := _, guard := _ } :: _) _ _; refine Shut.out ?_)
                show wpList _ _ _ _ _ _
                refine wpList_appSS rfl _ _ rfl w1.heap.size _ ws [p.data.toList, q.data.toList, r.data.toList] rfl (by exact H2.out.1) ⟨g2, off2, none⟩ cc2 3 rfl rfl (three_cells c0 c1 c2) (by have := HK.out.2.2; simp only [List.length_cons, List.length_nil]; omega) H2.out.2.size ?_
                intro v9 w3 h3 k3
                have H3 := Hid.of (And.intro h3 (H2.out.2.step (Nat.le_refl _) k3))
                clear h3 k3
                simp only [Act.put, List.setIfInBounds_toArray, List.set_cons_zero, List.set_cons_succ]
                go_wp2
                go_roundw
                case rel => exact ⟨1, by go_num, by omega, ws ++ [p.data.toList, q.data.toList, r.data.toList], H3.out.1, H3.out.2, by rw [HW0.out]; simp, (fun h => by cases h), (fun _ => ⟨_, HTW.out, by rw [HW0.out]; rfl⟩), (fun h => by cases h)⟩
                case measure => simp [intOf]
            · have HN := Hid.of (HNo.out (HTw3.out hq3))
              obtain ⟨a5, c5, rfl⟩ := hS2.len
              generalize qs.length = n5 at *
              have hq3z : ((n5 : Int) != 3) = true := by rw [bne_iff_ne]; omega
              clear hq3 hS2 HTw3 HTwo
              dsimp only
              go_wp2
              go_ret2
              exact SIX.no HN.out (H1.out.trans H2.out.2)
          · by_cases hi1 : i = 1
            · subst hi1
              have HW1 := Hid.of (hw1 rfl)
              clear hw0 hw1 hw2
              have HPc := Hid.of (Pieces_walk xb 32 HLA.out.2 wr)
              rw [show ((32 : UInt8).toNat : Int) = 32 from rfl] at HPc
              have hgx := hU.cell gb
              have HNo := Hid.of (show tw xb.data.toList = none → two s.data.toList = none from fun h => by
                rw [HR2.out, h]
                cases tw xa.data.toList <;> rfl)
              have HK := Hid.of (And.intro hO (And.intro hU hwl))
              clear hO hU
              go_wp2_with fail
              refine HPc.out.mono ?_
              clear HPc
              rintro e w2 ⟨v2, rfl, h2, u2⟩
              have H2 := Hid.of (And.intro (HK.out.1.up u2) (HK.out.2.1.trans u2))
              have hS2 := h2.sl
              clear h2 u2
              have HTw3 := Hid.of (fun (h : (pcs 32 xb.data.toList).length ≠ 3) => tw_none3 h)
              have HTwo := Hid.of (fun (p q r : List UInt8) (h : pcs 32 xb.data.toList = [p, q, r]) => tw_of h)
              generalize pcs 32 xb.data.toList = qs at *
              by_cases hq3 : qs.length = 3
              · match qs, hq3 with
                | [p0, q0, r0], _ =>
                  obtain ⟨g2, off2, cc2, p, q, r, rfl, hcc2, c0, c1, c2, e0, e1, e2⟩ := hS2.three
                  have hcc2z : (3 : Int) ≤ (cc2 : Int) := by omega
                  have HTW0 := Hid.of (HTwo.out p0 q0 r0 rfl)
                  rw [← e0, ← e1, ← e2] at HTW0 hS2
                  have HS3 := Hid.of hS2
                  clear HTwo HTw3 hS2 hcc2
                  dsimp only
                  by_cases hh : p.data.toList = []
                  · have hep : p.toList.isEmpty = true := by rw [emp_iff, hh]; rfl
                    have HN := Hid.of (HNo.out (by rw [HTW0.out, if_pos (.inl hh)]))
                    clear hh
                    go_wp2
                    go_ret2
                    exact SIX.no HN.out (H1.out.trans H2.out.2)
                  have hep : p.toList.isEmpty = false := by rw [emp_iff]; simpa using hh
                  have HHp := Hid.of hh
                  clear hh
                  by_cases hh : q.data.toList = []
                  · have heq : q.toList.isEmpty = true := by rw [emp_iff, hh]; rfl
                    have HN := Hid.of (HNo.out (by rw [HTW0.out, if_pos (.inr (.inl hh))]))
                    clear hh
                    go_wp2
                    go_ret2
                    exact SIX.no HN.out (H1.out.trans H2.out.2)
                  have heq : q.toList.isEmpty = false := by rw [emp_iff]; simpa using hh
                  have HHq := Hid.of hh
                  clear hh
                  by_cases hh : r.data.toList = []
                  · have her : r.toList.isEmpty = true := by rw [emp_iff, hh]; rfl
                    have HN := Hid.of (HNo.out (by rw [HTW0.out, if_pos (.inr (.inr hh))]))
                    clear hh
                    go_wp2
                    go_ret2
                    exact SIX.no HN.out (H1.out.trans H2.out.2)
                  have her : r.toList.isEmpty = false := by rw [emp_iff]; simpa using hh
                  have HHr := Hid.of hh
                  clear hh
                  have HTW := Hid.of (show tw xb.data.toList = some (p.data.toList, q.data.toList, r.data.toList) by rw [HTW0.out, if_neg (by rintro (h | h | h); exact HHp.out h; exact HHq.out h; exact HHr.out h)])
                  go_wp2_with (with_reducible show wpList _ _ _ ({ dst := _, op := Op.call { callee := Callee.builtin Builtin.append, args := _, argTypes := _ }, type := _, pos := _, after := _, guard := _ } :: _) _ _; refine Shut.out ?_)
                  show wpList _ _ _ _ _ _
                  refine wpList_appSS rfl _ _ rfl w1.heap.size _ ws [p.data.toList, q.data.toList, r.data.toList] rfl (by exact H2.out.1) ⟨g2, off2, none⟩ cc2 3 rfl rfl (three_cells c0 c1 c2) (by have := HK.out.2.2; simp only [List.length_cons, List.length_nil]; omega) H2.out.2.size ?_
                  intro v9 w3 h3 k3
                  have H3 := Hid.of (And.intro h3 (H2.out.2.step (Nat.le_refl _) k3))
                  clear h3 k3
                  simp only [Act.put, List.setIfInBounds_toArray, List.set_cons_zero, List.set_cons_succ]
                  go_wp2
                  go_roundw
                  case rel => exact ⟨2, by go_num, by omega, ws ++ [p.data.toList, q.data.toList, r.data.toList], H3.out.1, H3.out.2, (by obtain ⟨x, hx1, hx2⟩ := HW1.out; rw [hx2]; simp), (fun h => by cases h), (fun h => by cases h), (fun _ => (by obtain ⟨x, hx1, hx2⟩ := HW1.out; exact ⟨x, _, hx1, HTW.out, by rw [hx2]⟩))⟩
                  case measure => simp [intOf]
              · have HN := Hid.of (HNo.out (HTw3.out hq3))
                obtain ⟨a5, c5, rfl⟩ := hS2.len
                generalize qs.length = n5 at *
                have hq3z : ((n5 : Int) != 3) = true := by rw [bne_iff_ne]; omega
                clear hq3 hS2 HTw3 HTwo
                dsimp only
                go_wp2
                go_ret2
                exact SIX.no HN.out (H1.out.trans H2.out.2)
            · obtain rfl : i = 2 := by omega
              obtain ⟨x, y, hx, hy, rfl⟩ := hw2 rfl
              have HT := Hid.of (show two s.data.toList = some (x, y) by rw [HR2.out, hx, hy])
              have HS := Hid.of hO.sl
              have HU := Hid.of (H1.out.trans hU)
              clear hw0 hw1 hw2 hx hy hO hU hi0 hi1
              go_wp2
              go_ret2
              refine ⟨_, by rw [HT.out]; rfl, ⟨_, _, _, rfl⟩, fun x' y' h => ?_, HU.out⟩
              rw [HT.out] at h
              injection h with h
              injection h with h1 h2
              subst h1 h2
              exact HS.out
      · have hce : xc.toList.isEmpty = false := by rw [emp_iff, ec]; simpa using hc0
        have HN := Hid.of (show two s.data.toList = none by
          rw [HR.out]
          cases c with
          | nil => exact absurd rfl hc0
          | cons p q => rfl)
        clear HR ea eb ec hb hc0
        dsimp only
        go_wp2
        go_ret2
        exact SIX.no HN.out H1.out
  · have HN := Hid.of (show two s.data.toList = none by
      rw [HR.out]
      split
      · rename_i a b; exact absurd rfl h3
      · rfl)
    obtain ⟨a, cc, rfl⟩ := hS.len
    generalize ps.length = n at *
    have h3z : ((n : Int) != 3) = true := by rw [bne_iff_ne]; omega
    clear HR h3 hS hb
    dsimp only
    go_wp2
    go_ret2
    exact SIX.no HN.out H1.out
end Go.Proofs.YtnciglpdjpckiaaGreatDoor
