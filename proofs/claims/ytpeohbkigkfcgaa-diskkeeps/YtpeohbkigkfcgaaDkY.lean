/- first (7). -/
import Derived.Test.YtpeohbkigkfcgaaDkX
namespace Go.Proofs.Ytpeohbkigkfcgaa
open Go Go.Shelf Go.ChangeShapes Go.WideShapes Go.ChangeAt Go.RowKit Go.Maps Go.Sort
set_option linter.unusedVariables false
theorem Sep.below {w w' : World} {S S' : Nat → Prop} {B : Nat} (h : Sep w w' S S') (hS : ∀ q, S q → B ≤ q) (hB : B ≤ w.heap.size) : Below B w w' := ⟨h.os, h.tape, h.output, h.size, fun k hk => h.block k (by omega) (fun h' => by have := hS k h'; omega)⟩
theorem Sep.from {w w' : World} {S S' : Nat → Prop} {B : Nat} (h : Sep w w' S S') (hS : ∀ q, S q → B ≤ q) (hB : B ≤ w.heap.size) : ∀ q, S' q → B ≤ q := fun q hq => by
  rcases h.new q hq with h1 | h1
  · exact hS q h1
  · omega
set_option maxRecDepth 100000 in
set_option maxHeartbeats 4000000 in
theorem first_ok (w : World) : Calls Try.prog 7 #[] w fun e w' => e = .returned (.bool true) ∧ Below w.heap.size w w' := by
  go_enter Try.func7, Try.ntmps7
  go_wp2_with fail
  refine (new_ok 10 (by decide) w).mono ?_
  rintro e w1 ⟨rfl, hd1, hb1⟩
  have D1 : Hid (DiskOK w1 w.heap.size 0 K0 (fun q => q = w.heap.size)) := hd1
  have B1 := hide hb1
  have F1 : Hid (∀ q, q = w.heap.size → w.heap.size ≤ q) := fun q e => by omega
  clear hd1 hb1
  go_wp2_with (first | (go_at_call 14; refine (num_ok 0 _ (by omega) (by omega)).mono ?_; rintro e w2 ⟨rfl, hw⟩; rw [hw]; clear hw w2))
  refine (fcreate1 (unhide D1) (by omega)).mono ?_
  rintro e w2 ⟨rfl, S2, hd2, hs2⟩
  have D2 := hide hd2
  have B2 : Hid (Below w.heap.size w w2) := (unhide B1).trans (hs2.below (unhide F1) (unhide B1).size)
  have F2 : Hid (∀ q, S2 q → w.heap.size ≤ q) := hs2.from (unhide F1) (unhide B1).size
  have L2 : Hid (∀ q, S2 q → q < w2.heap.size) := by obtain ⟨_, _, _, h⟩ := hd2; exact h.sl
  have l2 : w.heap.size < w2.heap.size := by obtain ⟨_, _, _, h⟩ := hd2; exact h.at'.lt
  clear hd2 hs2
  obtain ⟨w3, hw3⟩ : ∃ w3, w3 = w2.alloc (.cells #[.int .u8 104, .int .u8 101, .int .u8 108, .int .u8 108, .int .u8 111] 5 (5, 6)) := ⟨_, rfl⟩
  have b3 : Below w2.heap.size w2 w3 := by rw [hw3]; exact bal (Below.refl _ _) _
  have U3 : Hid (BytesAt w3 (.slice (some ⟨w2.heap.size, 0, none⟩) 5 5) [104, 101, 108, 108, 111]) := .inr ⟨w2.heap.size, 0, 5, rfl, fun j u hj => by
    rw [hw3, Nat.zero_add, World.cell?_alloc_mark]
    match j, hj with
    | 0, hj => exact hj
    | 1, hj => exact hj
    | 2, hj => exact hj
    | 3, hj => exact hj
    | 4, hj => exact hj⟩
  have z3 : w3.heap.size = w2.heap.size + 1 := by rw [hw3]; simp
  have hcv3 : (convert 27 27 (.slice (some ⟨w2.heap.size, 0, none⟩) 5 5)).run Try.prog (w2.alloc (.cells #[.int .u8 104, .int .u8 101, .int .u8 108, .int .u8 108, .int .u8 111] 5)) = .ok (.slice (some ⟨w2.heap.size, 0, none⟩) 5 5) w3 := by rw [hw3]; exact Go.Lib.run_convert_bytes_const (P := Try.prog) w2 27 5 #[.int .u8 104, .int .u8 101, .int .u8 108, .int .u8 108, .int .u8 111] 5 5 Try.underlying27 Try.underlying5
  clear hw3
  have D3 := hide ((unhide D2).below b3)
  have B3 : Hid (Below w.heap.size w w3) := (unhide B2).trans (b3.mono (by omega))
  clear b3
  go_wp2_with (first | (go_at_call 14; refine (num_ok 0 _ (by omega) (by omega)).mono ?_; rintro e wn ⟨rfl, hw⟩; rw [hw]; clear hw wn))
  refine (append2 (unhide D3) (by omega) w2.heap.size 5 (unhide U3) (by omega)).mono ?_
  rintro e w4 ⟨rfl, S4, hd4, hs4⟩
  have D4 := hide hd4
  have B4 : Hid (Below w.heap.size w w4) := (unhide B3).trans (hs4.below (unhide F2) (unhide B3).size)
  have F4 : Hid (∀ q, S4 q → w.heap.size ≤ q) := hs4.from (unhide F2) (unhide B3).size
  clear hd4 hs4 hcv3
  go_wp2_with (first | (go_at_call 14; refine (num_ok 0 _ (by omega) (by omega)).mono ?_; rintro e wn ⟨rfl, hw⟩; rw [hw]; clear hw wn))
  refine (sync3 (unhide D4) (by omega)).mono ?_
  rintro e w5 ⟨rfl, S5, hd5, hs5⟩
  have D5 := hide hd5
  have B5 : Hid (Below w.heap.size w w5) := (unhide B4).trans (hs5.below (unhide F4) (unhide B4).size)
  have F5 : Hid (∀ q, S5 q → w.heap.size ≤ q) := hs5.from (unhide F4) (unhide B4).size
  have l5 : w.heap.size < w5.heap.size := by obtain ⟨_, _, _, h⟩ := hd5; exact h.at'.lt
  clear hd5 hs5
  obtain ⟨w6, hw6⟩ : ∃ w6, w6 = w5.alloc (.cells #[.int .u8 97, .int .u8 98, .int .u8 99] 5 (3, 4)) := ⟨_, rfl⟩
  have b6 : Below w5.heap.size w5 w6 := by rw [hw6]; exact bal (Below.refl _ _) _
  have U6 : Hid (BytesAt w6 (.slice (some ⟨w5.heap.size, 0, none⟩) 3 3) [97, 98, 99]) := .inr ⟨w5.heap.size, 0, 3, rfl, fun j u hj => by
    rw [hw6, Nat.zero_add, World.cell?_alloc_mark]
    match j, hj with
    | 0, hj => exact hj
    | 1, hj => exact hj
    | 2, hj => exact hj⟩
  have z6 : w6.heap.size = w5.heap.size + 1 := by rw [hw6]; simp
  have hcv6 : (convert 27 27 (.slice (some ⟨w5.heap.size, 0, none⟩) 3 3)).run Try.prog (w5.alloc (.cells #[.int .u8 97, .int .u8 98, .int .u8 99] 5)) = .ok (.slice (some ⟨w5.heap.size, 0, none⟩) 3 3) w6 := by rw [hw6]; exact Go.Lib.run_convert_bytes_const (P := Try.prog) w5 27 5 #[.int .u8 97, .int .u8 98, .int .u8 99] 3 3 Try.underlying27 Try.underlying5
  clear hw6
  have D6 := hide ((unhide D5).below b6)
  have B6 : Hid (Below w.heap.size w w6) := (unhide B5).trans (b6.mono (by omega))
  clear b6
  go_wp2_with (first | (go_at_call 14; refine (num_ok 0 _ (by omega) (by omega)).mono ?_; rintro e wn ⟨rfl, hw⟩; rw [hw]; clear hw wn))
  refine (append4 (unhide D6) (by omega) w5.heap.size 3 (unhide U6) (by omega)).mono ?_
  rintro e w7 ⟨rfl, S7, hd7, hs7⟩
  have D7 := hide hd7
  have B7 : Hid (Below w.heap.size w w7) := (unhide B6).trans (hs7.below (unhide F5) (unhide B6).size)
  have F7 : Hid (∀ q, S7 q → w.heap.size ≤ q) := hs7.from (unhide F5) (unhide B6).size
  have L7 : Hid (∀ q, S7 q → q < w7.heap.size) := by obtain ⟨_, _, _, h⟩ := hd7; exact h.sl
  clear hd7 hs7 hcv6
  go_wp2_with (first | (go_at_call 14; refine (num_ok 0 _ (by omega) (by omega)).mono ?_; rintro e wn ⟨rfl, hw⟩; rw [hw]; clear hw wn))
  obtain ⟨w8, hw8⟩ : ∃ w8, w8 = w7.alloc (.cells #[.int .i64 2] 3) := ⟨_, rfl⟩
  have b8 : Below w7.heap.size w7 w8 := by rw [hw8]; exact bal (Below.refl _ _) _
  have k8 : Hid (w8.cell? ⟨w7.heap.size, 0, none⟩ = some (.int .i64 2)) := by rw [hw8]; show _ = _; simp
  rw [← hw8]
  clear hw8
  have B8 : Hid (Below w.heap.size w w8) := (unhide B7).trans (b8.mono (unhide B7).size)
  refine (crash5 ((unhide D7).below b8) (by omega) w7.heap.size 1 (unhide k8) (fun h' => by have := unhide L7 _ h'; omega)).mono ?_
  rintro e w9 ⟨⟨r, rfl⟩, S9, hd9, hs9⟩
  have D9 := hide hd9
  have B9 : Hid (Below w.heap.size w w9) := (unhide B8).trans (hs9.below (unhide F7) (unhide B8).size)
  clear hd9 hs9 b8
  go_wp2_with fail
  refine (read6 (unhide D9)).mono ?_
  rintro e w10 ⟨⟨p, c, rfl, hcv, hrow⟩, hb10⟩
  have D10 := hide ((unhide D9).below hb10)
  have B10 : Hid (Below w.heap.size w w10) := (unhide B9).trans (hb10.mono (unhide B9).size)
  have R10 := hide hrow
  clear hb10 hrow hcv
  go_wp2_with fail
  refine (list9 (unhide D10)).mono ?_
  rintro e w11 ⟨⟨g, cg, rfl, hg⟩, hb11⟩
  have D11 := hide ((unhide D10).below hb11)
  have B11 : Hid (Below w.heap.size w w11) := (unhide B10).trans (hb11.mono (unhide B10).size)
  have hcv : (convert 27 9 (.slice p 7 c)).run Try.prog w11 = .ok (.string ⟨#[104, 101, 108, 108, 111, 97, 98]⟩) w11 := conv_row (bs := [104, 101, 108, 108, 111, 97, 98]) (own_below (unhide R10) hb11)
  have HF := hide (free7 (unhide D11))
  clear hb11
  go_wp2_with (first | (go_at_call 14; refine (num_ok 0 _ (by omega) (by omega)).mono ?_; rintro e wn ⟨rfl, hw⟩; rw [hw]; clear hw wn))
  refine (unhide HF).mono ?_
  rintro e w12 ⟨rfl, hb12⟩
  have D12 := hide ((unhide D11).below hb12)
  have B12 : Hid (Below w.heap.size w w12) := (unhide B11).trans (hb12.mono (unhide B11).size)
  clear hb12
  go_wp2_with (first | (go_at_call 29; refine (down8 (unhide D12)).mono ?_; rintro e wn ⟨rfl, hw⟩; rw [hw]; clear hw wn))
  go_ret
  exact ⟨rfl, unhide B12⟩
end Go.Proofs.Ytpeohbkigkfcgaa
