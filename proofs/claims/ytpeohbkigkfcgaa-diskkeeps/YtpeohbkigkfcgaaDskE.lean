/- disk: a disk lies on; Sync's closure (125), Create's (197). -/
import Derived.Test.YtpeohbkigkfcgaaDskD
namespace Go.Proofs.Ytpeohbkigkfcgaa
open Go Go.ChangeShapes Go.WideShapes Go.ChangeAt Go.RowKit
set_option linter.unusedVariables false
theorem DiskAt.lt {W : World} {d n : Nat} {cap fuse : Int} {mo : Option Nat} {down : Bool} {D : DataW Value} (h : DiskAt W d cap mo fuse down n D) : d < W.heap.size := World.block_lt_of_cell? W ⟨d, 0, none⟩ h.c0
theorem DiskAt.below {W W' : World} {d n : Nat} {cap fuse : Int} {mo : Option Nat} {down : Bool} {D : DataW Value} (h : DiskAt W d cap mo fuse down n D) (hb : Below W.heap.size W W') : DiskAt W' d cap mo fuse down n D :=
  ⟨keep1 hb h.lt h.c0, keep1 hb h.lt h.c1, keep1 hb h.lt h.c2, keep1 hb h.lt h.c3, h.files.imp id (fun ⟨b, h1, h2⟩ => ⟨b, h1, h2.kept (grown_of_below hb) (by simp)⟩)⟩
set_option maxRecDepth 100000 in
set_option maxHeartbeats 4000000 in
/-- Sync's closure: the file under its name, all of it synced -/
theorem sync1 (s : ByteArray) (hs : s.size ≤ maxLen) (p : Option Addr) (m c : Nat) (y : Int) (B0 B1 B2 d n : Nat) (hn : n < maxLen) (mo : Option Nat) (cap fuse : Int) (down : Bool) (D : DataW Value) (w : World) (hD : DiskAt w d cap mo fuse down n D) (hdb : ∀ b, mo = some b → d ≠ b) (hf : w.frozen? ⟨d, 1, none⟩ = false)
    (k0 : w.cell? ⟨B0, 0, none⟩ = some (.pointer (some ⟨d, 0, none⟩))) (k1 : w.cell? ⟨B1, 0, none⟩ = some (.string s)) (k2 : w.cell? ⟨B2, 0, none⟩ = some (.slice p m c)) (k3 : w.cell? ⟨B2, 1, none⟩ = some (.int .i64 y)) :
    Calls Try.prog 45 #[.pointer (some ⟨B0, 0, none⟩), .pointer (some ⟨B1, 0, none⟩), .pointer (some ⟨B2, 0, none⟩)] w fun e w' => PutOut s (.agg #[.slice p m c, .int .i64 (m : Int)]) d cap mo fuse down n D w e w' := by
  have HP := hide (put_any s hs p m c (m : Int) d n hn mo cap fuse down D w hD hdb hf)
  clear hD hdb hf
  go_enter Try.func45, Try.ntmps45
  go_wp2_with fail
  refine (unhide HP).mono ?_
  rintro e w' ⟨⟨r, rfl⟩, h⟩
  have H := hide h
  clear h
  go_wp2_with fail
  go_end0
  exact ⟨⟨_, rfl⟩, unhide H⟩
set_option maxRecDepth 100000 in
set_option maxHeartbeats 4000000 in
/-- Create's closure: an empty file under its name -/
theorem create1 (s : ByteArray) (hs : s.size ≤ maxLen) (B0 B1 d n : Nat) (hn : n < maxLen) (mo : Option Nat) (cap fuse : Int) (down : Bool) (D : DataW Value) (w : World) (hD : DiskAt w d cap mo fuse down n D) (hdb : ∀ b, mo = some b → d ≠ b) (hf : w.frozen? ⟨d, 1, none⟩ = false)
    (k0 : w.cell? ⟨B0, 0, none⟩ = some (.pointer (some ⟨d, 0, none⟩))) (k1 : w.cell? ⟨B1, 0, none⟩ = some (.string s)) :
    Calls Try.prog 42 #[.pointer (some ⟨B0, 0, none⟩), .pointer (some ⟨B1, 0, none⟩)] w fun e w' => PutOut s noFile d cap mo fuse down n D w e w' := by
  have HP := hide (put_any s hs none 0 0 0 d n hn mo cap fuse down D w hD hdb hf)
  clear hD hdb hf
  go_enter Try.func42, Try.ntmps42
  go_wp2_with fail
  refine (unhide HP).mono ?_
  rintro e w' ⟨⟨r, rfl⟩, h⟩
  have H := hide h
  clear h
  go_wp2_with fail
  go_end0
  exact ⟨⟨_, rfl⟩, unhide H⟩
end Go.Proofs.Ytpeohbkigkfcgaa
