import Derived.Test.YtdlfkdehfenemaaAp
namespace Go.Proofs.Ytdlfkdehfenemaa
open Go.RowKit Go.Conc TextNum
/-- a list of lanes that is read -/
structure Lns (w : World) (S : NS) (v : Value) (is : List Nat) : Prop where
  sh : ∃ b o c, v = .slice (some ⟨b, o, none⟩) is.length c ∧ is.length ≤ c ∧ ∀ (j i : Nat), is[j]? = some i → w.cell? ⟨b, o + j, none⟩ = some (.int .i64 (i : Int))
  ne : is ≠ []
  lt : ∀ i ∈ is, i < S.ls.length
  le : is.length ≤ 64
/-- nothing more can come -/
def endL (l : LC) : Bool := l.sh && l.la == 0
def hasM (S : NS) (i : Nat) : Bool := match S.ls[i]? with
  | some l => !l.ms.isEmpty
  | none => false
def endI (S : NS) (i : Nat) : Bool := match S.ls[i]? with
  | some l => endL l
  | none => true
def chI (S : NS) (i : Nat) : Nat := match S.ls[i]? with
  | some l => l.c
  | none => 0
def rdyV (S : NS) (is : List Nat) : Value := match is.find? (hasM S) with
  | some i => .tuple #[.int .i64 (i : Int), .chan (some (chI S i))]
  | none => if is.all (endI S) then .tuple #[.int .i64 ((is.headD 0 : Nat) : Int), .chan (some (chI S (is.headD 0)))] else .tuple #[.int .i64 0, .chan none]
theorem find_take {α : Type} {p : α → Bool} {l : List α} {j : Nat} (hj : j < l.length) (h : (l.take j).all (fun x => !p x) = true) (hp : p l[j] = true) : l.find? p = some l[j] := by
  have e : l = l.take j ++ l[j] :: l.drop (j + 1) := by
    rw [List.getElem_cons_drop, List.take_append_drop]
  obtain ⟨y, hy⟩ : ∃ y, l[j] = y := ⟨_, rfl⟩
  rw [hy] at e hp ⊢
  rw [e, List.find?_append]
  have : (l.take j).find? p = none := by
    rw [List.find?_eq_none]
    intro x hx
    have := List.all_eq_true.1 h x hx
    simpa using this
  rw [this]
  simp [hp]
theorem find_none {α : Type} {p : α → Bool} {l : List α} (h : l.all (fun x => !p x) = true) : l.find? p = none := by
  rw [List.find?_eq_none]
  intro x hx
  have := List.all_eq_true.1 h x hx
  simpa using this
theorem countP_all {α : Type} (p : α → Bool) (l : List α) : (l.countP p = l.length) = (l.all p = true) := by
  rw [List.countP_eq_length, List.all_eq_true]
set_option maxRecDepth 100000 in
set_option maxHeartbeats 1000000 in
theorem ready_walk (w : World) (S : NS) (v : Value) (is : List Nat) (h : NOk w S) (hL : Lns w S v is) :
    Calls Try.prog 53 #[.pointer (some ⟨S.nb, 0, none⟩), v] w fun e w' => e = .returned (rdyV S is) ∧ Up w w' := by
  obtain ⟨b, o, c, rfl, hc, hcell⟩ := hL.sh
  have hle := hL.le
  have HL := Hid.of hL
  have HC := Hid.of hcell
  have HN := Hid.of h
  have c0 := h.net.cell (i := 0) rfl
  clear h hL hcell
  go_enter Try.func53, Try.ntmps53
  go_wp2
  go_loopw [6, 8, 9, 12] (fun v6 _ _ v12 wr => wr = w ∧ ∃ j : Nat, v12 = .int .i64 (j : Int) ∧ j ≤ is.length ∧ ∃ q : Nat, v6 = .int .i64 (q : Int) ∧ Hid ((is.take j).all (fun i => !hasM S i) = true ∧ q = (is.take j).countP (endI S))) (fun _ _ _ v12 _ => is.length - (intOf v12).toNat)
  case atStart => exact ⟨rfl, 0, rfl, by omega, 0, rfl, Hid.of ⟨rfl, rfl⟩⟩
  case round =>
    obtain ⟨rfl, j, rfl, hj, q, rfl, hR⟩ := hrel
    have HR := Hid.of hR.out
    clear hR
    by_cases hlt : j < is.length
    · have hltz : (j : Int) < (is.length : Int) := by omega
      have hcz : (is.length : Int) ≤ (c : Int) := by omega
      obtain ⟨i, hi⟩ : ∃ i, is[j] = i := ⟨_, rfl⟩
      have d0 := HC.out j i (by rw [List.getElem?_eq_getElem hlt, hi])
      have him : i ∈ is := hi ▸ List.getElem_mem hlt
      have hil := HL.out.lt i him
      have hilz : (i : Int) < (S.ls.length : Int) := by omega
      obtain ⟨l, hl⟩ : ∃ l, S.ls[i]? = some l := ⟨_, List.getElem?_eq_getElem hil⟩
      have c1 := HN.out.row.cell (lcell0 hl)
      have hx := HN.out.chs l (get_mem hl)
      have hlen := fun ty => run_len_chan (P := Try.prog) 85 ty Try.underlying85 hx
      have hE := ended_walk wr S.pb (i * 3) l.la l.sh (lcs S.ls) HN.out.row (lcell1 hl) (lcell2 hl)
      have hq : q ≤ 64 := by
        have h1 : (is.take j).countP (endI S) ≤ (is.take j).length := List.countP_le_length
        rw [List.length_take] at h1
        have := HR.out.2
        omega
      have hqw : IntKind.i64.wrap ((q : Int) + 1) = (q : Int) + 1 := by rw [IntKind.wrap_i64]; omega
      have hjw : IntKind.i64.wrap ((j : Int) + 1) = (j : Int) + 1 := by rw [IntKind.wrap_i64]; omega
      have HI := Hid.of hi
      have HLl := Hid.of hl
      clear hx hi hl him
      by_cases hm : 0 < l.ms.length
      · have hmz : (0 : Int) < (l.ms.length : Int) := by omega
        have hres : rdyV S is = .tuple #[.int .i64 (i : Int), .chan (some l.c)] := by
          have h1 : hasM S i = true := by
            unfold hasM
            rw [HLl.out]
            dsimp only
            cases hms : l.ms with
            | nil => rw [hms] at hm; simp at hm
            | cons => rfl
          have h2 := find_take (p := hasM S) hlt HR.out.1 (by rw [HI.out]; exact h1)
          unfold rdyV
          rw [h2, HI.out]
          simp only [chI, HLl.out]
        have HRES := Hid.of hres
        clear hres
        go_wp2
        have mixed : Try.prog.follows .mixedOrders = true := by kernel_rfl
        apply wp_once
        case h =>
          go_region
          all_goals exact ⟨rfl, rfl⟩
        go_wp2
        go_ret2
        rw [HRES.out]
        exact ⟨rfl, (Up.refl _).drew⟩
      · have hmz : ¬ ((0 : Int) < (l.ms.length : Int)) := by omega
        have hl0 : l.ms.length = 0 := by omega
        have hmz2 : (l.ms.length : Int) = 0 := by omega
        have HR2 := Hid.of (show (is.take (j + 1)).all (fun i => !hasM S i) = true ∧ q + (if endL l then 1 else 0) = (is.take (j + 1)).countP (endI S) by
          rw [List.take_succ_eq_append_getElem hlt, HI.out]
          have h1 : hasM S i = false := by
            unfold hasM
            rw [HLl.out]
            dsimp only
            rw [List.eq_nil_of_length_eq_zero hl0]
            rfl
          have h2 : endI S i = endL l := by
            unfold endI
            rw [HLl.out]
          refine ⟨?_, ?_⟩
          · rw [List.all_append, HR.out.1]
            simp [h1]
          · rw [List.countP_append, ← HR.out.2]
            simp [h2, List.countP_cons])
        go_wp2_with fail
        refine hE.mono ?_
        rintro e w2 ⟨rfl, rfl⟩
        dsimp only
        cases hb : (l.sh && l.la == 0)
        · have he : endL l = false := hb
          rw [he] at HR2
          clear he hE hlen
          go_wp2
          go_roundw
          case rel => exact ⟨trivial, j + 1, by simp, by omega, q, rfl, by simpa using HR2⟩
          case measure => simp [intOf]; omega
        · have he : endL l = true := hb
          rw [he] at HR2
          clear he hE hlen
          go_wp2
          go_roundw
          case rel => exact ⟨trivial, j + 1, by simp, by omega, q + 1, by simp, by simpa using HR2⟩
          case measure => simp [intOf]; omega
    · have hltz : ¬ ((j : Int) < (is.length : Int)) := by omega
      obtain rfl : j = is.length := by omega
      have hR2 := HR.out
      rw [List.take_length] at hR2
      have hf := find_none (p := hasM S) hR2.1
      by_cases ha : is.all (endI S) = true
      · have hqe : q = is.length := by rw [hR2.2, countP_all]; exact ha
        have hqz : (q : Int) = (is.length : Int) := by omega
        subst hqe
        obtain ⟨i0, r0, his⟩ : ∃ i0 r0, is = i0 :: r0 := by
          cases his : is with
          | nil => exact absurd his HL.out.ne
          | cons a b => exact ⟨a, b, rfl⟩
        have d0 := HC.out 0 i0 (by rw [his]; rfl)
        rw [Nat.add_zero] at d0
        have hil := HL.out.lt i0 (by rw [his]; simp)
        have hilz : (i0 : Int) < (S.ls.length : Int) := by omega
        have hlz : (0 : Int) < (is.length : Int) := by rw [his]; simp
        have hcz : (is.length : Int) ≤ (c : Int) := by omega
        obtain ⟨l, hl⟩ : ∃ l, S.ls[i0]? = some l := ⟨_, List.getElem?_eq_getElem hil⟩
        have c1 := HN.out.row.cell (lcell0 hl)
        have hres : rdyV S is = .tuple #[.int .i64 (i0 : Int), .chan (some l.c)] := by
          unfold rdyV
          rw [hf, if_pos ha, his]
          simp only [List.headD_cons, chI, hl]
        have HRES := Hid.of hres
        clear hres his hf ha hR2 hl HR
        go_wp2
        have mixed : Try.prog.follows .mixedOrders = true := by kernel_rfl
        apply wp_once
        case h =>
          go_region
          all_goals exact ⟨rfl, rfl⟩
        go_wp2
        go_ret2
        rw [HRES.out]
        exact ⟨rfl, (Up.refl _).drew⟩
      · have hqe : q ≠ is.length := by
          rw [hR2.2]
          intro e
          rw [countP_all] at e
          exact ha e
        have hqz : ¬ ((q : Int) = (is.length : Int)) := by omega
        have hres : rdyV S is = .tuple #[.int .i64 0, .chan none] := by
          unfold rdyV
          rw [hf, if_neg ha]
        have HRES := Hid.of hres
        clear hres hf ha hR2 HR
        go_wp2
        go_ret2
        rw [HRES.out]
        exact ⟨rfl, Up.refl _⟩
end Go.Proofs.Ytdlfkdehfenemaa
