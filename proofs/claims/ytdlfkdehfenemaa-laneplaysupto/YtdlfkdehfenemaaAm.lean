import Derived.Test.YtdlfkdehfenemaaAl
namespace Go.Proofs.Ytdlfkdehfenemaa
open Go.RowKit Go.Conc TextNum
theorem fok_cases {f : Int × Int} (h : fok f = true) : f.1 = 0 ∨ f.1 = 1 ∨ ((f.1 = 2 ∨ f.1 = 3) ∧ 0 ≤ f.2 ∧ f.2 ≤ 1000) ∨ ((f.1 = 4 ∨ f.1 = 5) ∧ 0 ≤ f.2 ∧ f.2 ≤ 1048576) := by
  unfold fok at h
  simp only [Bool.or_eq_true, Bool.and_eq_true, beq_iff_eq, decide_eq_true_eq] at h
  omega
theorem sendA_zero (A : AN) (i : Nat) (d : List UInt8) (a b : Int) : sendA A i d (0, a) = sendA A i d (0, b) := by simp [sendA]
theorem sendA_one (A : AN) (i : Nat) (d : List UInt8) (a b : Int) : sendA A i d (1, a) = sendA A i d (1, b) := by simp [sendA]
set_option maxRecDepth 100000 in
theorem send_zero (w : World) (S : NS) (i : Nat) (N : Int) (l : LC) (v : Value) (d : List UInt8) (h : NOk w S) (k : SOk S) (hl : S.ls[i]? = some l) (ho : l.sh = false) (hd : Sb w v d) (hdl : d.length ≤ 1048576) :
    Calls Try.prog 35 #[.pointer (some ⟨S.nb, 0, none⟩), .int .i64 (i : Int), v, .agg #[.int .i64 0, .int .i64 N]] w fun e w' => e = .returned (.tuple #[]) ∧ ∃ S', Stp w.heap.size 1 w w' S S' (sendA (abs S) i d (0, N)) ∧ S'.ls.map (·.sh) = S.ls.map (·.sh) := by
  have HU := Hid.of ((Up.refl w).alloc (.cells #[.int .i64 0, .int .i64 N] 58))
  have HN := Hid.of h
  have HK := Hid.of k
  have HD := Hid.of hd
  have HL := Hid.of hl
  have HO := Hid.of ho
  clear h k hd hl ho
  go_enter Try.func35, Try.ntmps35
  go_wp2_with fail
  generalize w.alloc (.cells #[.int .i64 0, .int .i64 N] 58) = W0 at *
  refine (Clone_walk v d W0 (HD.out.up HU.out) (by omega)).mono ?_
  rintro e w1 ⟨v1, rfl, o1, u1⟩
  have HU1 := Hid.of (HU.out.trans u1)
  have hP := post0 (N := w.heap.size) w1 S i l ⟨v1, d⟩ (HN.out.up HU1.out) HK.out HL.out HO.out (ow_base o1 (Nat.zero_le _)) (fun g hg => Nat.le_trans HU.out.size (World.ownsRow.lt o1 g hg).1) (fun g hg => cm_new HN.out (Nat.le_trans HU.out.size (World.ownsRow.lt o1 g hg).1))
  dsimp only at hP ⊢
  go_wp2_with fail
  refine hP.mono ?_
  rintro e w2 ⟨rfl, S', h2, h3⟩
  dsimp only
  go_wp2
  go_end0
  exact ⟨rfl, S', (h2.base HU1.out).more (by omega), h3⟩
set_option maxRecDepth 100000 in
theorem send_one (w : World) (S : NS) (i : Nat) (N : Int) (v : Value) (d : List UInt8) (h : NOk w S) (k : SOk S) :
    Calls Try.prog 35 #[.pointer (some ⟨S.nb, 0, none⟩), .int .i64 (i : Int), v, .agg #[.int .i64 1, .int .i64 N]] w fun e w' => e = .returned (.tuple #[]) ∧ ∃ S', Stp w.heap.size 1 w w' S S' (sendA (abs S) i d (1, N)) ∧ S'.ls.map (·.sh) = S.ls.map (·.sh) := by
  have HU := Hid.of ((Up.refl w).alloc (.cells #[.int .i64 1, .int .i64 N] 58))
  have HN := Hid.of h
  have HK := Hid.of k
  clear h k
  go_enter Try.func35, Try.ntmps35
  go_wp2
  go_end0
  exact ⟨rfl, S, (Stp.up HN.out HK.out HU.out).more (by omega), rfl⟩
theorem send_gen (w : World) (S : NS) (i : Nat) (f : Int × Int) (l : LC) (v : Value) (d : List UInt8) (h : NOk w S) (k : SOk S) (hl : S.ls[i]? = some l) (ho : l.sh = false) (hd : Sb w v d) (hdl : d.length ≤ 1048576) (hv : ∀ g, v.ownBlock = some g → ¬ own S g) (hf : fok f = true) (hnow : S.now ≤ 2305843009213693952) (hmn : S.mn ≤ 549755813888) :
    Calls Try.prog 35 #[.pointer (some ⟨S.nb, 0, none⟩), .int .i64 (i : Int), v, .agg #[.int .i64 f.1, .int .i64 f.2]] w fun e w' => e = .returned (.tuple #[]) ∧ ∃ S', Stp w.heap.size 1 w w' S S' (sendA (abs S) i d f) ∧ S'.ls.map (·.sh) = S.ls.map (·.sh) := by
  obtain ⟨a, b⟩ := f
  rcases fok_cases hf with h0 | h0 | ⟨h0 | h0, h1, h2⟩ | ⟨h0 | h0, h1, h2⟩
  · dsimp only at h0; subst h0; exact send_zero w S i b l v d h k hl ho hd hdl
  · dsimp only at h0; subst h0; exact send_one w S i b v d h k
  all_goals
    dsimp only at h0 h1 h2
    subst h0
    obtain ⟨n, rfl⟩ : ∃ n : Nat, b = (n : Int) := ⟨b.toNat, by omega⟩
  · exact send_2 w S i n l v d h k hl ho hd hdl hv (by omega) hnow hmn
  · exact send_3 w S i n l v d h k hl ho hd hdl (by omega) hnow hmn
  · exact send_4 w S i n l v d h k hl ho hd hdl
  · exact send_5 w S i n l v d h k hl ho hd hdl
/-- the fate that the next message takes -/
def nextA (A : AN) : (Int × Int) × AN := match A.fs with
  | [] => ((0, 0), A)
  | f :: r => (f, { A with fs := r })
def SendA (A : AN) (i : Nat) (d : List UInt8) : AN := sendA (nextA A).2 i d (nextA A).1
theorem take_gen (w : World) (S : NS) (h : NOk w S) (k : SOk S) :
    Calls Try.prog 36 #[.pointer (some ⟨S.nb, 0, none⟩)] w fun e w' => e = .returned (.agg #[.int .i64 (nextA (abs S)).1.1, .int .i64 (nextA (abs S)).1.2]) ∧ ∃ S', Stp w.heap.size 0 w w' S S' (nextA (abs S)).2 ∧ S'.ls = S.ls ∧ S'.now = S.now ∧ (∀ g, own S' g ↔ own S g) ∧ fok (nextA (abs S)).1 = true := by
  cases hf : S.fs with
  | nil =>
    have e : nextA (abs S) = ((0, 0), abs S) := by simp only [nextA, abs, hf]
    rw [e]
    refine (takeFate_none w S h hf).mono ?_
    rintro e w' ⟨rfl, u⟩
    exact ⟨rfl, S, Stp.up h k u, rfl, rfl, fun _ => Iff.rfl, rfl⟩
  | cons f r =>
    have e : nextA (abs S) = (f, { abs S with fs := r }) := by simp only [nextA, abs, hf]
    rw [e]
    refine (takeFate_some w S f r h hf).mono ?_
    rintro e w' ⟨rfl, fv, h1, h2, h3⟩
    refine ⟨rfl, { S with fv := fv, fs := r }, ⟨h1, ⟨k.la, k.pd, k.bd, k.n, fun x hx => k.fk x (by rw [hf]; exact List.mem_cons_of_mem _ hx)⟩, rfl, h2.weak (fun g hg => .inl hg), fun x hx => .inl hx, fun x hx => .inl ?_, rfl, Nat.le_refl _, fun h => h⟩, rfl, rfl, fun _ => Iff.rfl, k.fk f (by rw [hf]; simp)⟩
    rcases hx with hx | hx
    · exact .inl (h3 x hx)
    · exact .inr hx
set_option maxRecDepth 100000 in
theorem Send_yes (w : World) (S : NS) (i : Nat) (l : LC) (v : Value) (d : List UInt8) (h : NOk w S) (k : SOk S) (hl : S.ls[i]? = some l) (ho : l.sh = false) (hd : Sb w v d) (hdl : d.length ≤ 1048576) (hv : ∀ g, v.ownBlock = some g → ¬ own S g) (hnow : S.now ≤ 2305843009213693952) (hmn : S.mn ≤ 549755813888) :
    Calls Try.prog 18 #[.pointer (some ⟨S.nb, 0, none⟩), .int .i64 (i : Int), v] w fun e w' => e = .returned (.int .i64 0) ∧ ∃ S', Stp w.heap.size 1 w w' S S' (SendA (abs S) i d) ∧ S'.ls.map (·.sh) = S.ls.map (·.sh) := by
  have hH := has_walk w S (i : Int) h
  rw [isL_nat hl] at hH
  have hi := (List.getElem?_eq_some_iff.1 hl).1
  have c0 := h.net.cell (i := 0) rfl
  have c1 := h.row.cell (lcell1 hl)
  rw [ho] at c1
  obtain ⟨va, vc, rfl, hvl, hvm, hvn, hvs⟩ := id hd
  have hz : (d.length : Int) ≤ 1048576 := by omega
  have HT := Hid.of (take_gen w S h k)
  have HN := Hid.of h
  have HK := Hid.of k
  have HD := Hid.of hd
  have HL := Hid.of hl
  have HO := Hid.of ho
  have HV := Hid.of hv
  clear h k hd hl ho hvl hvm hvn hvs hv
  go_enter Try.func18, Try.ntmps18
  go_wp2_with fail
  refine hH.mono ?_
  rintro e w1 ⟨rfl, rfl⟩
  clear hH
  dsimp only
  go_wp2_with fail
  refine HT.out.mono ?_
  rintro e w2 ⟨rfl, S1, h2, hls, hnw, hown, hfk⟩
  have hG := send_gen w2 S1 i (nextA (abs S)).1 l (.slice va d.length vc) d h2.ok h2.so (by rw [hls]; exact HL.out) HO.out (h2.fr.sb' HD.out HV.out) hdl (fun g hg hk => HV.out g hg ((hown g).1 hk)) hfk (by rw [hnw]; exact hnow) (by have := h2.mn; omega)
  rw [h2.nb] at hG
  have H2 := Hid.of h2
  have HLS := Hid.of hls
  clear h2 hls hnw hown hfk
  dsimp only
  go_wp2_with fail
  refine hG.mono ?_
  rintro e w3 ⟨rfl, S', h3, h4⟩
  dsimp only
  go_wp2
  go_ret
  refine ⟨rfl, S', ?_, h4.trans (by rw [HLS.out])⟩
  have h5 : Stp w1.heap.size 1 w2 w3 S1 S' (sendA (abs S1) i d (nextA (abs S)).1) := ⟨h3.ok, h3.so, h3.ab, h3.fr, h3.no, fun x hx => (h3.nr x hx).imp id (fun h => Nat.le_trans H2.out.fr.size h), h3.nb, h3.mn, h3.ap⟩
  have := H2.out.trans h5
  rw [H2.out.ab] at this
  simpa [SendA] using this
set_option maxRecDepth 100000 in
theorem Send_no (w : World) (S : NS) (z : Int) (v : Value) (h : NOk w S) (hz : isL S z = false) : Calls Try.prog 18 #[.pointer (some ⟨S.nb, 0, none⟩), .int .i64 z, v] w fun e w' => e = .returned (.int .i64 192) ∧ w' = w := by
  have hH := has_walk w S z h
  rw [hz] at hH
  clear h
  go_enter Try.func18, Try.ntmps18
  go_wp2_with fail
  refine hH.mono ?_
  rintro e w1 ⟨rfl, rfl⟩
  dsimp only
  go_wp2
  go_ret
  exact ⟨rfl, rfl⟩
set_option maxRecDepth 100000 in
theorem Send_shut (w : World) (S : NS) (i : Nat) (l : LC) (v : Value) (h : NOk w S) (hl : S.ls[i]? = some l) (hs : l.sh = true) : Calls Try.prog 18 #[.pointer (some ⟨S.nb, 0, none⟩), .int .i64 (i : Int), v] w fun e w' => e = .returned (.int .i64 191) ∧ w' = w := by
  have hH := has_walk w S (i : Int) h
  rw [isL_nat hl] at hH
  have hi := (List.getElem?_eq_some_iff.1 hl).1
  have c0 := h.net.cell (i := 0) rfl
  have c1 := h.row.cell (lcell1 hl)
  rw [hs] at c1
  clear h
  go_enter Try.func18, Try.ntmps18
  go_wp2_with fail
  refine hH.mono ?_
  rintro e w1 ⟨rfl, rfl⟩
  dsimp only
  go_wp2
  go_ret
  exact ⟨rfl, rfl⟩
set_option maxRecDepth 100000 in
theorem Send_long (w : World) (S : NS) (i : Nat) (l : LC) (a : Option Addr) (n c : Nat) (h : NOk w S) (hl : S.ls[i]? = some l) (hs : l.sh = false) (hn : 1048576 < n) : Calls Try.prog 18 #[.pointer (some ⟨S.nb, 0, none⟩), .int .i64 (i : Int), .slice a n c] w fun e w' => e = .returned (.int .i64 2) ∧ w' = w := by
  have hH := has_walk w S (i : Int) h
  rw [isL_nat hl] at hH
  have hi := (List.getElem?_eq_some_iff.1 hl).1
  have c0 := h.net.cell (i := 0) rfl
  have c1 := h.row.cell (lcell1 hl)
  rw [hs] at c1
  have hz : (1048576 : Int) < (n : Int) := by omega
  clear h
  go_enter Try.func18, Try.ntmps18
  go_wp2_with fail
  refine hH.mono ?_
  rintro e w1 ⟨rfl, rfl⟩
  dsimp only
  go_wp2
  go_ret
  exact ⟨rfl, rfl⟩
end Go.Proofs.Ytdlfkdehfenemaa
