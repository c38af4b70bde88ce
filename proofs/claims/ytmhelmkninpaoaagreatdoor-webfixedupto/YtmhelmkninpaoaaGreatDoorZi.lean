import Derived.Test.YtmhelmkninpaoaaGreatDoorZh
namespace Go.Proofs.YtmhelmkninpaoaaGreatDoor
open Go.RowKit Go.Shelf TextNum
/-- what is told of a request -/
structure QD where
  m : ByteArray
  t : ByteArray
  mi : Int
  fs : List FD
  cl : Bool
  b : List UInt8
  n : Int
  e : Int
def datQ : Er ((Rq × List UInt8) × Nat) → QD
  | .error k => ⟨⟨#[]⟩, ⟨#[]⟩, 0, [], false, [], 0, numK k⟩
  | .ok ((x, b), n) => ⟨⟨x.m.toArray⟩, ⟨x.t.toArray⟩, x.mi, x.fs, cls (x.mi == 0) x.fs, b, (n : Int), 0⟩
/-- what is told of a response -/
structure SD where
  st : Int
  mi : Int
  fs : List FD
  cl : Bool
  b : List UInt8
  n : Int
  e : Int
def datS : Er ((Rs × Bool × List UInt8) × Nat) → SD
  | .error k => ⟨0, 0, [], false, [], 0, numK k⟩
  | .ok ((x, cl, b), n) => ⟨(x.st : Int), x.mi, x.fs, cl, b, (n : Int), 0⟩
def qV (d : QD) (a : Option Addr) (c : Nat) (v : Value) : Value := .agg #[.string d.m, .string d.t, .int .i64 d.mi, .slice a d.fs.length c, v, .bool d.cl]
def sV (d : SD) (a : Option Addr) (c : Nat) (v : Value) : Value := .agg #[.int .i64 d.st, .int .i64 d.mi, .slice a d.fs.length c, v, .bool d.cl]
/-- fields and their texts are small -/
def Sml (fs : List FD) : Prop := fs.length ≤ 1048576 ∧ ∀ f ∈ fs, f.n.size ≤ 1048576 ∧ f.v.size ≤ 1048576
theorem sml_nil : Sml [] := ⟨by simp, fun f hf => by cases hf⟩
theorem rdf_sml {l : List UInt8} {fs : List FD} (hl : l.length ≤ 16384) (h : rdf l = .ok fs) : Sml fs := by
  have h1 := rdf_small h
  exact ⟨by omega, fun f hf => by have := h1.2 f hf; omega⟩
theorem rqg_ok {st fl : List UInt8} {x : Rq} {way : Int} {len : Nat} (h : rqg st fl = .ok (x, way, len)) : rql st = .ok (x.m, x.t, x.mi) ∧ rdf fl = .ok x.fs ∧ ckh x.fs x.mi = none ∧ frm x.fs x.mi 0 = .ok (way, len) := by
  unfold rqg at h
  split at h
  · cases h
  · rename_i m t mi h1
    split at h
    · cases h
    · rename_i fs h2
      split at h
      · cases h
      · rename_i h3
        split at h
        · cases h
        · rename_i w l h4
          injection h with h
          injection h with e1 e2
          injection e2 with e2 e3
          subst e1 e2 e3
          exact ⟨h1, h2, h3, h4⟩
theorem rsg_ok {st fl : List UInt8} {x : Rs} {way : Int} {len : Nat} (h : rsg st fl = .ok (x, way, len)) : rsl st = .ok (x.st, x.mi) ∧ rdf fl = .ok x.fs ∧ rsF (x.st : Int) x.fs x.mi = .ok (way, len) := by
  unfold rsg at h
  split at h
  · cases h
  · rename_i s mi h1
    split at h
    · cases h
    · rename_i fs h2
      split at h
      · cases h
      · rename_i w l h4
        injection h with h
        injection h with e1 e2
        injection e2 with e2 e3
        subst e1 e2 e3
        exact ⟨h1, h2, h4⟩
theorem datQ_sml {l : List UInt8} : Sml (datQ (rqP l)).fs := by
  cases h : rqP l with
  | error k => exact sml_nil
  | ok q =>
    obtain ⟨⟨x, b⟩, n⟩ := q
    obtain ⟨st, fl, k, x', way, len, b', h1, h2, h3, h4, _⟩ := msg_ok h
    injection h4 with e1 e2
    subst e1
    exact rdf_sml (cHd_ok h1).2.2.2.1 (rqg_ok h2).2.1
theorem datS_sml {l : List UInt8} : Sml (datS (rsP l)).fs := by
  cases h : rsP l with
  | error k => exact sml_nil
  | ok q =>
    obtain ⟨⟨x, cl, b⟩, n⟩ := q
    obtain ⟨st, fl, k, x', way, len, b', h1, h2, h3, h4, _⟩ := msg_ok h
    injection h4 with e1 e2
    subst e1
    exact rdf_sml (cHd_ok h1).2.2.2.1 (rsg_ok h2).2.1
theorem fdl_nil (w : World) : FdL w none [] 0 := ⟨Nat.le_refl _, fun i h => by cases h⟩
theorem sb_nil' (w : World) : Sb w (.slice none 0 0) [] := ⟨none, 0, rfl, by simp, by simp, fun _ => ⟨rfl, rfl⟩, fun _ e => by cases e⟩
theorem fdo_nil (w : World) (N : Nat) : FdO w N none [] 0 := World.ownsRow_nil _ _ _ _
theorem ow_nil (w : World) (N : Nat) : Ow w N (.slice none 0 0) [] := World.ownsRow_nil _ _ _ _
theorem ParseRequest_dat (ad : Nat → Addr) {a : Option Addr} {n c : Nat} {ds : List UInt8} (hn40 : n ≤ 1099511627776) (w : World) (hS : Sb w (.slice a n c) ds) (hW : GW w ad) : Calls Tryz.prog 11 #[.slice a n c] w fun e w' => ∃ a c v, e = .returned (.tuple #[qV (datQ (rqP ds)) a c v, .int .i64 (datQ (rqP ds)).n, .int .i64 (datQ (rqP ds)).e]) ∧ Hid (FdO w' w.heap.size a (datQ (rqP ds)).fs c ∧ Ow w' w.heap.size v (datQ (rqP ds)).b) ∧ Up w w' := by
  refine (ParseRequest_walk ad hn40 w hS hW).mono ?_
  rintro e w' ⟨hR, hU⟩
  cases h : rqP ds with
  | error k =>
    rw [h] at hR
    obtain rfl : e = _ := hR
    exact ⟨none, 0, .slice none 0 0, rfl, Hid.of ⟨fdo_nil _ _, ow_nil _ _⟩, hU⟩
  | ok q =>
    obtain ⟨⟨x, b⟩, m⟩ := q
    rw [h] at hR
    obtain ⟨a, c, v, rfl, hO⟩ := hR
    exact ⟨a, c, v, rfl, hO, hU⟩
theorem ParseResponse_dat (ad : Nat → Addr) {a : Option Addr} {n c : Nat} {ds : List UInt8} (hn40 : n ≤ 1099511627776) (w : World) (hS : Sb w (.slice a n c) ds) (hW : GW w ad) : Calls Tryz.prog 13 #[.slice a n c] w fun e w' => ∃ a c v, e = .returned (.tuple #[sV (datS (rsP ds)) a c v, .int .i64 (datS (rsP ds)).n, .int .i64 (datS (rsP ds)).e]) ∧ Hid (FdO w' w.heap.size a (datS (rsP ds)).fs c ∧ Ow w' w.heap.size v (datS (rsP ds)).b) ∧ Up w w' := by
  refine (ParseResponse_walk ad hn40 w hS hW).mono ?_
  rintro e w' ⟨hR, hU⟩
  cases h : rsP ds with
  | error k =>
    rw [h] at hR
    obtain rfl : e = _ := hR
    exact ⟨none, 0, .slice none 0 0, rfl, Hid.of ⟨fdo_nil _ _, ow_nil _ _⟩, hU⟩
  | ok q =>
    obtain ⟨⟨x, cl, b⟩, m⟩ := q
    rw [h] at hR
    obtain ⟨a, c, v, rfl, hO⟩ := hR
    exact ⟨a, c, v, rfl, hO, hU⟩
/-! what holds of them -/
theorem numK_n : ∀ k, k < 24 → k ≠ 14 → (numK k = 140 ↔ k = 2) ∧ numK k ≠ 0 := by decide +kernel
theorem msg_14 {X Y : Type} {pl : Nat} {g : List UInt8 → List UInt8 → Er (X × Int × Nat)} {mk : X → Int → List UInt8 → Y} {l : List UInt8} {k : Nat} (hp : pl ≠ 2) (hg : ∀ st fl k, g st fl = .error k → k < 12) (h : msg pl g mk l = .error k) : k ≠ 14 := by
  unfold msg at h
  split at h
  · rename_i he
    injection h with h
    subst h
    have := cHd_er he
    omega
  · split at h
    · rename_i he
      injection h with h
      subst h
      have := hg _ _ _ he
      omega
    · split at h
      · rename_i he
        injection h with h
        subst h
        have := fcu_er he
        omega
      · cases h
theorem rqP_num {l : List UInt8} {k : Nat} (h : rqP l = .error k) : (numK k = 140 ↔ k = 2) ∧ numK k ≠ 0 := numK_n k (rqP_lt h) (msg_14 (by decide) (fun _ _ _ => rqg_er) h)
theorem rsP_num {l : List UInt8} {k : Nat} (h : rsP l = .error k) : (numK k = 140 ↔ k = 2) ∧ numK k ≠ 0 := numK_n k (rsP_lt h) (msg_14 (by decide) (fun _ _ _ => rsg_er) h)
theorem frm_way {fs : List FD} {mi u way : Int} {n : Nat} (h : frm fs mi u = .ok (way, n)) : (way = u ∧ fs.countP tls = 0) ∨ way = 3 ∨ way = 2 := by
  unfold frm frl at h
  split at h
  · cases h
  · split at h
    · cases h
    · split at h
      · rename_i h0
        injection h with h
        injection h with e1 e2
        exact .inl ⟨e1.symm, h0⟩
      · split at h
        · injection h with h
          injection h with e1 e2
          exact .inr (.inl e1.symm)
        · split at h
          · injection h with h
            injection h with e1 e2
            exact .inr (.inr e1.symm)
          · split at h <;> cases h
theorem rqP_ok {l : List UInt8} {x : Rq} {b : List UInt8} {n : Nat} (h : rqP l = .ok ((x, b), n)) (t : List UInt8) : rqP (l ++ t) = .ok ((x, b), n) ∧ n ≤ l.length := by
  obtain ⟨st, fl, k, x', way, len, b', h1, h2, h3, h4, h5, h6, h7, h8, h9⟩ := msg_ok h
  have hw : way ≠ 1 := by
    have := frm_way (rqg_ok h2).2.2.2
    omega
  exact ⟨(h9 t).1 hw, h6⟩
/-- more bytes behind a request -/
theorem fixQ (l t : List UInt8) : ((datQ (rqP l)).e ≠ 140 ∧ datQ (rqP (l ++ t)) = datQ (rqP l) ∧ (datQ (rqP l)).n ≤ (l.length : Int)) ∨ ((datQ (rqP l)).e = 140 ∧ (datQ (rqP l)).n = 0 ∧ (datQ (rqP l)).m = ⟨#[]⟩ ∧ ((datQ (rqP (l ++ t))).e = 0 → (l.length : Int) < (datQ (rqP (l ++ t))).n)) := by
  cases h : rqP l with
  | error k =>
    have hk := rqP_num h
    by_cases h2 : k = 2
    · subst h2
      refine .inr ⟨hk.1.2 rfl, rfl, rfl, fun he => ?_⟩
      cases hr : rqP (l ++ t) with
      | error k' =>
        rw [hr] at he
        exact absurd he (rqP_num hr).2
      | ok q =>
        obtain ⟨⟨x, b⟩, n⟩ := q
        have := msg_short h hr
        show (l.length : Int) < (n : Int)
        omega
    · refine .inl ⟨fun e => h2 (hk.1.1 e), ?_, ?_⟩
      · rw [show rqP (l ++ t) = .error k from msg_er h h2]
      · show (0 : Int) ≤ _
        omega
  | ok q =>
    obtain ⟨⟨x, b⟩, n⟩ := q
    have h1 := rqP_ok h t
    refine .inl ⟨by show (0 : Int) ≠ 140; decide, by rw [h1.1], ?_⟩
    show (n : Int) ≤ _
    omega
def clN : ByteArray := ⟨#[99, 111, 110, 116, 101, 110, 116, 45, 108, 101, 110, 103, 116, 104]⟩
def teN : ByteArray := ⟨#[116, 114, 97, 110, 115, 102, 101, 114, 45, 101, 110, 99, 111, 100, 105, 110, 103]⟩
theorem kdf_of {nm : ByteArray} (L : List UInt8) (h : lws nm.data.toList = L) : kdf nm = (match kdT.find? (fun p => lws p.1.data.toList == L) with | some p => p.2 | none => 0) := by
  unfold kdf
  have : kdp nm = fun p => lws p.1.data.toList == L := by
    funext p
    unfold kdp
    rw [h]
  rw [this]
  cases kdT.find? (fun p => lws p.1.data.toList == L) <;> rfl
theorem kdf_cl {nm : ByteArray} (h : lws nm.data.toList = lws clN.data.toList) : kdf nm = 4 := by
  rw [kdf_of _ h]
  decide +kernel
theorem kdf_te {nm : ByteArray} (h : lws nm.data.toList = lws teN.data.toList) : kdf nm = 3 := by
  rw [kdf_of _ h]
  decide +kernel
theorem fnd_none {fs : List FD} (h : fs.countP tls = 0) : fnd fs clN = none ∧ fnd fs teN = none := by
  rw [List.countP_eq_zero] at h
  unfold fnd
  rw [List.find?_eq_none, List.find?_eq_none]
  refine ⟨fun f hf e => h f hf ?_, fun f hf e => h f hf ?_⟩
  · unfold tls
    rw [kdf_cl (by simpa using e)]
    rfl
  · unfold tls
    rw [kdf_te (by simpa using e)]
    rfl
/-- more bytes behind a response -/
theorem fixS (l t : List UInt8) :
    ((datS (rsP l)).e = 0 ∧ fnd (datS (rsP l)).fs clN = none ∧ fnd (datS (rsP l)).fs teN = none ∧ (datS (rsP l)).n ≤ (l.length : Int) ∧ ((datS (rsP (l ++ t))).e = 0 → (datS (rsP (l ++ t))).st = (datS (rsP l)).st ∧ (datS (rsP (l ++ t))).fs = (datS (rsP l)).fs)) ∨
    ((datS (rsP l)).e = 140 ∧ (datS (rsP l)).n = 0) ∨
    (((datS (rsP l)).e = 0 → (fnd (datS (rsP l)).fs clN).isSome = true ∨ (fnd (datS (rsP l)).fs teN).isSome = true) ∧ (datS (rsP l)).e ≠ 140 ∧ datS (rsP (l ++ t)) = datS (rsP l) ∧ (datS (rsP l)).n ≤ (l.length : Int)) := by
  cases h : rsP l with
  | error k =>
    have hk := rsP_num h
    by_cases h2 : k = 2
    · subst h2
      exact .inr (.inl ⟨hk.1.2 rfl, rfl⟩)
    · refine .inr (.inr ⟨fun e => absurd e hk.2, fun e => h2 (hk.1.1 e), ?_, ?_⟩)
      · rw [show rsP (l ++ t) = .error k from msg_er h h2]
      · show (0 : Int) ≤ _
        omega
  | ok q =>
    obtain ⟨⟨x, cl, b⟩, n⟩ := q
    obtain ⟨st, fl, k, x', way, len, b', h1, h2, h3, h4, h5, h6, h7, h8, h9⟩ := msg_ok h
    have hx : x = x' := by injection h4
    subst hx
    by_cases hw : way = 1
    · subst hw
      have h10 := (rsg_ok h2).2.2
      unfold rsF at h10
      split at h10
      · injection h10 with e
        injection e with e1 e2
        cases e1
      · have h11 := frm_way h10
        have h12 : x.fs.countP tls = 0 := by omega
        have h13 := fnd_none h12
        refine .inl ⟨rfl, h13.1, h13.2, ?_, fun he => ?_⟩
        · show (n : Int) ≤ _
          omega
        · cases hr : rsP (l ++ t) with
          | error k' =>
            rw [hr] at he
            exact absurd he (rsP_num hr).2
          | ok q =>
            obtain ⟨y, n'⟩ := q
            obtain ⟨b2, hb2⟩ := (h9 t).2 y n' hr
            subst hb2
            exact ⟨rfl, rfl⟩
    · have h10 : rsP (l ++ t) = .ok ((x, cl, b), n) := (h9 t).1 hw
      by_cases hs : (fnd x.fs clN).isSome = true ∨ (fnd x.fs teN).isSome = true
      · refine .inr (.inr ⟨fun _ => hs, by show (0 : Int) ≠ 140; decide, by rw [h10], ?_⟩)
        show (n : Int) ≤ _
        omega
      · have hs1 : fnd x.fs clN = none := by
          cases h13 : fnd x.fs clN with
          | none => rfl
          | some f => exact absurd (.inl (by rw [h13]; rfl)) hs
        have hs2 : fnd x.fs teN = none := by
          cases h13 : fnd x.fs teN with
          | none => rfl
          | some f => exact absurd (.inr (by rw [h13]; rfl)) hs
        refine .inl ⟨rfl, hs1, hs2, ?_, fun _ => ?_⟩
        · show (n : Int) ≤ _
          omega
        · rw [h10]
          exact ⟨rfl, rfl⟩
end Go.Proofs.YtmhelmkninpaoaaGreatDoor
