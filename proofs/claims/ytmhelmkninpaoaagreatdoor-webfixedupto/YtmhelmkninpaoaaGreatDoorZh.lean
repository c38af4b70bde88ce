import Derived.Test.YtmhelmkninpaoaaGreatDoorZg
namespace Go.Proofs.YtmhelmkninpaoaaGreatDoor
open Go.RowKit Go.Shelf TextNum
/-- the request that known asks -/
def kn : List UInt8 := [80, 85, 84, 32, 47, 97, 32, 72, 84, 84, 80, 47, 49, 46, 49, 13, 10, 72, 111, 115, 116, 58, 32, 98, 13, 10, 67, 111, 110, 116, 101, 110, 116, 45, 76, 101, 110, 103, 116, 104, 58, 32, 50, 13, 10, 13, 10, 104, 105, 33]
def knX : Rq := ⟨[80, 85, 84], [47, 97], 1, [⟨⟨#[72, 111, 115, 116]⟩, ⟨#[98]⟩⟩, ⟨⟨#[67, 111, 110, 116, 101, 110, 116, 45, 76, 101, 110, 103, 116, 104]⟩, ⟨#[50]⟩⟩]⟩
theorem kn_hd : cHd 9 kn = .ok (kn.take 15, (kn.drop 17).take 28, 47) := by kernel_rfl
theorem kn_rql : rql (kn.take 15) = .ok ([80, 85, 84], [47, 97], 1) := by kernel_rfl
theorem kn_rdf : rdf ((kn.drop 17).take 28) = .ok knX.fs := by kernel_rfl
theorem kn_ckh : ckh knX.fs 1 = none := by kernel_rfl
theorem kn_frm : frm knX.fs 1 0 = .ok (2, 2) := by kernel_rfl
theorem kn_fcu : fcu 2 2 (kn.drop 47) = .ok ([104, 105], 2) := by kernel_rfl
theorem kn_cls : cls (knX.mi == 0) knX.fs = false := by kernel_rfl
theorem rq_kn : rqP kn = .ok ((knX, [104, 105]), 49) := by
  unfold rqP msg
  rw [kn_hd]
  dsimp only
  unfold rqg
  rw [kn_rql]
  dsimp only
  rw [kn_rdf]
  dsimp only
  rw [kn_ckh]
  dsimp only
  rw [kn_frm]
  dsimp only
  rw [kn_fcu]
  rfl
theorem kn_cells : (cb kn).toArray = #[.int .u8 80, .int .u8 85, .int .u8 84, .int .u8 32, .int .u8 47, .int .u8 97, .int .u8 32, .int .u8 72, .int .u8 84, .int .u8 84, .int .u8 80, .int .u8 47, .int .u8 49, .int .u8 46, .int .u8 49, .int .u8 13, .int .u8 10, .int .u8 72, .int .u8 111, .int .u8 115, .int .u8 116, .int .u8 58, .int .u8 32, .int .u8 98, .int .u8 13, .int .u8 10, .int .u8 67, .int .u8 111, .int .u8 110, .int .u8 116, .int .u8 101, .int .u8 110, .int .u8 116, .int .u8 45, .int .u8 76, .int .u8 101, .int .u8 110, .int .u8 103, .int .u8 116, .int .u8 104, .int .u8 58, .int .u8 32, .int .u8 50, .int .u8 13, .int .u8 10, .int .u8 13, .int .u8 10, .int .u8 104, .int .u8 105, .int .u8 33] := by kernel_rfl
/-- bytes of a constant -/
theorem sb_mkl (w : World) (l : List UInt8) (m : Nat × Nat) (hl : l.length ≤ 1048576) : Sb (w.alloc (.cells (cb l).toArray 5 m)) (.slice (some ⟨w.heap.size, 0, none⟩) l.length l.length) l := by
  refine ⟨_, l.length, rfl, Nat.le_refl _, by unfold maxLen; omega, (fun e => by cases e), fun ad e => ?_⟩
  obtain rfl := Option.some.inj e
  refine ⟨fun _ => rfl, fun j u hj => ?_⟩
  rw [Addr.add_lit]
  unfold World.cell?
  dsimp only
  rw [heap_alloc_new w _, Nat.zero_add]
  simpa using hj
theorem knV (a : Option Addr) (c : Nat) (v : Value) : rqV knX a c v = .agg #[.string ⟨#[80, 85, 84]⟩, .string ⟨#[47, 97]⟩, .int .i64 1, .slice a 2 c, v, .bool false] := by
  unfold rqV
  rw [kn_cls]
  rfl
set_option maxRecDepth 100000 in
set_option maxHeartbeats 2000000 in
theorem known_walk (ad : Nat → Addr) (w : World) (hW : GW w ad) : Calls Tryz.prog 9 #[] w fun e w' => e = .returned (.bool true) ∧ Up w w' := by
  have hcv := Go.Lib.run_convert_bytes_const (P := Tryz.prog) w 22 5 #[.int .u8 80, .int .u8 85, .int .u8 84, .int .u8 32, .int .u8 47, .int .u8 97, .int .u8 32, .int .u8 72, .int .u8 84, .int .u8 84, .int .u8 80, .int .u8 47, .int .u8 49, .int .u8 46, .int .u8 49, .int .u8 13, .int .u8 10, .int .u8 72, .int .u8 111, .int .u8 115, .int .u8 116, .int .u8 58, .int .u8 32, .int .u8 98, .int .u8 13, .int .u8 10, .int .u8 67, .int .u8 111, .int .u8 110, .int .u8 116, .int .u8 101, .int .u8 110, .int .u8 116, .int .u8 45, .int .u8 76, .int .u8 101, .int .u8 110, .int .u8 103, .int .u8 116, .int .u8 104, .int .u8 58, .int .u8 32, .int .u8 50, .int .u8 13, .int .u8 10, .int .u8 13, .int .u8 10, .int .u8 104, .int .u8 105, .int .u8 33] 50 50 Tryz.underlying22 Tryz.underlying5
  have HSk := Hid.of (sb_mkl w kn (50, 51) (by decide))
  rw [kn_cells] at HSk
  have HU1 := Hid.of ((Up.refl w).alloc (.cells #[.int .u8 80, .int .u8 85, .int .u8 84, .int .u8 32, .int .u8 47, .int .u8 97, .int .u8 32, .int .u8 72, .int .u8 84, .int .u8 84, .int .u8 80, .int .u8 47, .int .u8 49, .int .u8 46, .int .u8 49, .int .u8 13, .int .u8 10, .int .u8 72, .int .u8 111, .int .u8 115, .int .u8 116, .int .u8 58, .int .u8 32, .int .u8 98, .int .u8 13, .int .u8 10, .int .u8 67, .int .u8 111, .int .u8 110, .int .u8 116, .int .u8 101, .int .u8 110, .int .u8 116, .int .u8 45, .int .u8 76, .int .u8 101, .int .u8 110, .int .u8 103, .int .u8 116, .int .u8 104, .int .u8 58, .int .u8 32, .int .u8 50, .int .u8 13, .int .u8 10, .int .u8 13, .int .u8 10, .int .u8 104, .int .u8 105, .int .u8 33] 5 (50, 51)))
  have HPq := Hid.of (ParseRequest_walk ad (n := 50) (c := 50) (by decide) _ HSk.out (hW.up HU1.out))
  rw [rq_kn] at HPq
  clear hW HSk
  go_enter Tryz.func9, Tryz.ntmps9
  go_wp2_with fail
  refine HPq.out.mono ?_
  rintro e w2 ⟨⟨a, c, v, rfl, hO⟩, h9⟩
  have HU2 := Hid.of (HU1.out.trans h9)
  have HSb := Hid.of (Ow.sb hO.out.2)
  clear h9 hO hcv HPq HU1
  obtain ⟨aB, nB, cB, rfl⟩ := Sb.shape HSb.out
  rw [knV]
  dsimp only
  have HU3 := Hid.of ((Up.refl w2).alloc (.cells #[.string ⟨#[80, 85, 84]⟩, .string ⟨#[47, 97]⟩, .int .i64 1, .slice a 2 c, .slice aB nB cB, .bool false] 27))
  have cv := conv_sb2 (HSb.out.up HU3.out)
  go_wp2
  go_ret
  exact ⟨rfl, HU2.out.alloc _⟩
end Go.Proofs.YtmhelmkninpaoaaGreatDoor
