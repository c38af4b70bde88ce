import Derived.Test.YtbdmpdjhgjidlaaGreatDoorRd6
import Derived.Test.YtbdmpdjhgjidlaaGreatDoorBd
namespace TextNum
/-- what the reference collects -/
def cl : Nat → Nat → List UInt8 → List UInt8
  | _, _, [] => []
  | h, n, c :: r => match pl LT c with
    | none => cl h n r
    | some v => if 8 ≤ h + 6 then UInt8.ofNat ((n % 256 * 64 + v) / 2 ^ (h + 6 - 8)) :: cl (h + 6 - 8) (n % 256 * 64 + v) r else cl (h + 6) (n % 256 * 64 + v) r
theorem cl_no {h n : Nat} {c : UInt8} {r : List UInt8} (hp : pl LT c = none) : cl h n (c :: r) = cl h n r := by simp only [cl]; rw [hp]
theorem cl_one {h n v : Nat} {c : UInt8} {r : List UInt8} (hp : pl LT c = some v) (hh : ¬ 8 ≤ h + 6) : cl h n (c :: r) = cl (h + 6) (n % 256 * 64 + v) r := by
  simp only [cl]; rw [hp]; simp only; rw [if_neg hh]
theorem cl_two {h n v : Nat} {c : UInt8} {r : List UInt8} (hp : pl LT c = some v) (hh : 8 ≤ h + 6) : cl h n (c :: r) = UInt8.ofNat ((n % 256 * 64 + v) / 2 ^ (h + 6 - 8)) :: cl (h + 6 - 8) (n % 256 * 64 + v) r := by
  simp only [cl]; rw [hp]; simp only; rw [if_pos hh]
theorem of_mod {m : Nat} {x : UInt8} (h : m % 256 = x.toNat) : UInt8.ofNat m = x := by
  apply UInt8.toNat_inj.1
  rw [UInt8.toNat_ofNat']
  exact h
theorem cl_enc : ∀ (l : List UInt8) (n : Nat), cl 0 n (b64E l) = l
  | [], n => rfl
  | [x], n => by
    have hx := x.toNat_lt
    show cl 0 n [lt (x.toNat / 4), lt (x.toNat % 4 * 16), 61, 61] = [x]
    rw [cl_one (lt_pl _ (by omega)) (by decide), cl_two (lt_pl _ (by omega)) (by decide), cl_no pl_61, cl_no pl_61]
    simp only [cl, Nat.reduceAdd, Nat.reduceSub, Nat.reducePow]
    rw [of_mod (x := x) (by omega)]
  | [x, y], n => by
    have hx := x.toNat_lt
    have hy := y.toNat_lt
    show cl 0 n [lt (x.toNat / 4), lt (x.toNat % 4 * 16 + y.toNat / 16), lt (y.toNat % 16 * 4), 61] = [x, y]
    rw [cl_one (lt_pl _ (by omega)) (by decide), cl_two (lt_pl _ (by omega)) (by decide), cl_two (lt_pl _ (by omega)) (by decide), cl_no pl_61]
    simp only [cl, Nat.reduceAdd, Nat.reduceSub, Nat.reducePow]
    rw [of_mod (x := x) (by omega), of_mod (x := y) (by omega)]
  | x :: y :: z :: r, n => by
    have hx := x.toNat_lt
    have hy := y.toNat_lt
    have hz := z.toNat_lt
    show cl 0 n (lt (x.toNat / 4) :: lt (x.toNat % 4 * 16 + y.toNat / 16) :: lt (y.toNat % 16 * 4 + z.toNat / 64) :: lt (z.toNat % 64) :: b64E r) = x :: y :: z :: r
    rw [cl_one (lt_pl _ (by omega)) (by decide), cl_two (lt_pl _ (by omega)) (by decide), cl_two (lt_pl _ (by omega)) (by decide), cl_two (lt_pl _ (by omega)) (by decide)]
    simp only [Nat.reduceAdd, Nat.reduceSub, Nat.reducePow]
    rw [cl_enc r, of_mod (x := x) (by omega), of_mod (x := y) (by omega), of_mod (x := z) (by omega)]
theorem b64_cl (s : List UInt8) : b64D s = if b64E (cl 0 0 s) = s then some (cl 0 0 s) else none := by
  cases hd : b64D s with
  | some x =>
    have hs := b64_once s x hd
    have hc : cl 0 0 s = x := by rw [← hs]; exact cl_enc x 0
    rw [hc, if_pos hs]
  | none =>
    split
    · rename_i h
      rw [← h, b64_back] at hd; cases hd
    · rfl
end TextNum
namespace Go.Proofs.YtbdmpdjhgjidlaaGreatDoor
open Go.RowKit TextNum
theorem plL_hv {c : UInt8} {i : Nat} (h : pl TextNum.LT c = some i) : plI TextNum.LT c = (i : Int) := by unfold plI; rw [h]
set_option maxRecDepth 100000 in
set_option maxHeartbeats 2000000 in
theorem RDecode64_walk (s : ByteArray) (w : World) :
    Calls Tryz.prog 29 #[.string s] w fun e w' => ∃ v, e = .returned (.tuple #[v, .int .i64 (b64R s.data.toList).2]) ∧ Own w' w.heap.size v (b64R s.data.toList).1 ∧ Up w w' := by
  have HS := Hid.of (Go.Lib.size_eq s)
  go_enter Tryz.func29, Tryz.ntmps29
  by_cases h1 : 1048576 < s.size
  · have d1 : (1048576 : Int) < (s.size : Int) := by omega
    go_wp2
    go_ret2
    rw [b64R_long (by rw [← HS.out]; exact h1)]
    exact ⟨_, rfl, own_nil _ _, Up.refl _⟩
  · have d1 : ¬ (1048576 : Int) < (s.size : Int) := by omega
    have hle : s.size ≤ 1048576 := by omega
    have HN := Hid.of (show ¬ 1048576 < s.data.toList.length by rw [← HS.out]; exact h1)
    have HU := Hid.of (b64_cl s.data.toList)
    clear h1
    go_wp2
    go_loopw [4, 5, 6, 7] (fun v4 v5 v6 v7 wr => ∃ (i h n : Nat) (out : List UInt8), v7 = .int .i64 (i : Int) ∧ i ≤ s.size ∧ v5 = .int .i64 (h : Int) ∧ h < 8 ∧ v6 = .int .i64 (n : Int) ∧ n < 16384 ∧ Hid (Own wr w.heap.size v4 out ∧ Up w wr ∧ out.length ≤ i ∧ cl 0 0 s.data.toList = out ++ cl h n (s.data.toList.drop i))) (fun _ _ _ v7 _ => s.size - (intOf v7).toNat)
    case atStart => exact ⟨0, 0, 0, [], rfl, by omega, rfl, by omega, rfl, by omega, own_nil _ _, Up.refl _, Nat.zero_le _, by simp⟩
    case round =>
      obtain ⟨i, h, n, out, rfl, hi, rfl, hh, rfl, hnl, hI⟩ := hrel
      by_cases hlt : i < s.size
      · have hlt' : (i : Int) < (s.size : Int) := by omega
        have hd : s.data.toList.drop i = s[i] :: s.data.toList.drop (i + 1) := by
          rw [sget' s i hlt]; exact List.drop_eq_getElem_cons (by rw [← HS.out]; exact hlt)
        have HD := Hid.of hd
        clear hd
        go_wp2_with fail
        refine (place_walk LS s[i] (by decide) wr).mono ?_
        rintro e w2 ⟨rfl, hw⟩
        obtain rfl := hw.symm
        rw [show LS.data.toList = TextNum.LT from rfl]
        dsimp only
        cases hp : pl TextNum.LT s[i] with
        | none =>
          have HF := Hid.of (show cl 0 0 s.data.toList = out ++ cl h n (s.data.toList.drop (i + 1)) by rw [hI.out.2.2.2, HD.out, cl_no hp])
          rw [plI_no hp]
          clear hp
          go_wp2
          go_roundw
          case rel => exact ⟨i + 1, h, n, out, by go_num, by omega, rfl, by omega, rfl, by omega, hI.out.1, hI.out.2.1, by have := hI.out.2.2.1; omega, HF.out⟩
          case measure => simp [intOf]; omega
        | some v =>
          have hv := (pl_lt' hp).2
          rw [plL_hv hp]
          have e0 : decide ((v : Int) < 0) = false := by simp
          have e0' : ¬ (v : Int) < 0 := by omega
          obtain ⟨n', hn'⟩ : ∃ n', n' = n % 256 * 64 + v := ⟨_, rfl⟩
          have hn1 : (n : Int) % 256 * 64 + (v : Int) = (n' : Int) := by omega
          have hnb : n' < 16384 := by omega
          by_cases h8 : 8 ≤ h + 6
          · obtain ⟨h6, hh6⟩ : ∃ h6, h6 = h + 6 := ⟨_, rfl⟩
            obtain ⟨h', hh'⟩ : ∃ h', h' = h + 6 - 8 := ⟨_, rfl⟩
            have k1 : (h : Int) + 6 = (h6 : Int) := by omega
            have k2 : (h6 : Int) - 8 = (h' : Int) := by omega
            have k3 : (8 : Int) ≤ (h6 : Int) := by omega
            have k4 : h' < 6 := by omega
            have hcl := cl_two (r := s.data.toList.drop (i + 1)) (n := n) hp h8
            rw [← hn', ← hh'] at hcl
            obtain ⟨y, hy⟩ : ∃ y, y = n' / 2 ^ h' := ⟨_, rfl⟩
            have k5 : (n' : Int) / 2 ^ h' = (y : Int) := by rw [hy]; simp
            have k6 : y < 16384 := by rw [hy]; exact Nat.lt_of_le_of_lt (Nat.div_le_self _ _) hnb
            rw [← hy] at hcl
            obtain ⟨z, hz⟩ : ∃ z : UInt8, z = UInt8.ofNat y := ⟨_, rfl⟩
            have k7 : (y : Int) % 256 = (z.toNat : Int) := by rw [hz, UInt8.toNat_ofNat']; omega
            have k8 : IntKind.u8.wrap (y : Int) = (z.toNat : Int) := by rw [IntKind.wrap_u8]; exact k7
            have k9 : z.toNat < 256 := z.toNat_lt
            rw [← hz] at hcl
            have HF := Hid.of (show cl 0 0 s.data.toList = out ++ [z] ++ cl h' n' (s.data.toList.drop (i + 1)) by rw [hI.out.2.2.2, HD.out, hcl]; simp)
            clear hp hn' hcl hh6 hh' hy hz h8
            go_wp2_with (with_reducible show wpList _ _ _ ({ dst := _, op := Op.call { callee := Callee.builtin Builtin.append, args := _, argTypes := _ }, type := _, pos := _, after := _, guard := _ } :: _) _ _; refine Shut.out ?_)
            show wpList _ _ _ _ _ _
            refine wpList_app1 rfl _ _ rfl w.heap.size _ out [z] rfl (by exact hI.out.1) 1 rfl (by have := hI.out.2.2.1; simp; omega) hI.out.2.1.size ?_
            intro v' w3 h3 b3
            have H3 := Hid.of (And.intro h3 (hI.out.2.1.step (Nat.le_refl _) b3))
            clear h3 b3
            simp only [Act.put, List.setIfInBounds_toArray, List.set_cons_zero, List.set_cons_succ]
            go_wp2
            go_roundw
            case rel => exact ⟨i + 1, h', n', out ++ [z], by go_num, by omega, rfl, by omega, rfl, by omega, H3.out.1, H3.out.2, by have := hI.out.2.2.1; simp; omega, HF.out⟩
            case measure => simp [intOf]; omega
          · have k3 : ¬ (8 : Int) ≤ (h : Int) + 6 := by omega
            have hcl := cl_one (r := s.data.toList.drop (i + 1)) (n := n) hp h8
            rw [← hn'] at hcl
            have HF := Hid.of (show cl 0 0 s.data.toList = out ++ cl (h + 6) n' (s.data.toList.drop (i + 1)) by rw [hI.out.2.2.2, HD.out, hcl])
            clear hp hn' hcl
            go_wp2
            go_roundw
            case rel => exact ⟨i + 1, h + 6, n', out, by go_num, by omega, by go_num, by omega, rfl, by omega, hI.out.1, hI.out.2.1, by have := hI.out.2.2.1; omega, HF.out⟩
            case measure => simp [intOf]; omega
      · have hlt' : ¬ (i : Int) < (s.size : Int) := by omega
        have hr : cl 0 0 s.data.toList = out := by rw [hI.out.2.2.2, List.drop_eq_nil_of_le (by rw [← HS.out]; omega)]; simp [cl]
        have hq := HU.out
        rw [hr] at hq
        have HQ := Hid.of hq
        clear hr hq
        obtain ⟨a4, c4, ev⟩ := hI.out.1.len
        subst ev
        go_wp2_with fail
        refine (REncode64_walk _ out _ (by exact hI.out.1.sl) (by have := hI.out.2.2.1; omega)).mono ?_
        rintro e w2 ⟨rfl, u2⟩
        have H2 := Hid.of (And.intro (hI.out.1.below u2) (hI.out.2.1.trans u2))
        clear u2
        by_cases he : b64E out = s.data.toList
        · have HF := Hid.of (b64R_some HN.out (show b64D s.data.toList = some out by rw [HQ.out, if_pos he]))
          rw [show vs (b64E out) = .string s by rw [he]]
          clear he
          dsimp only
          go_wp2
          go_ret2
          rw [HF.out]
          exact ⟨_, rfl, H2.out.1, H2.out.2⟩
        · have HF := Hid.of (b64R_none HN.out (show b64D s.data.toList = none by rw [HQ.out, if_neg he]))
          have hne : ((⟨(b64E out).toArray⟩ : ByteArray).toList == s.toList) = false := by
            rw [Go.Lib.toList_data, Go.Lib.toList_data]
            simpa using he
          rw [show vs (b64E out) = .string ⟨(b64E out).toArray⟩ from rfl]
          generalize (⟨(b64E out).toArray⟩ : ByteArray) = qq at *
          clear he
          dsimp only
          go_wp2
          go_ret2
          rw [HF.out]
          exact ⟨_, rfl, own_nil _ _, H2.out.2⟩
end Go.Proofs.YtbdmpdjhgjidlaaGreatDoor
