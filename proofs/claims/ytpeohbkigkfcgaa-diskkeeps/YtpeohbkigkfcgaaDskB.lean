/- disk: the block of a disk, its map of files, find (121). -/
import Derived.Test.YtpeohbkigkfcgaaDskA
import Derived.Maps.Own
import Derived.Maps.OwnSet
import Derived.Laws.ResultCell
import Derived.WalkKit
namespace Go.Proofs.Ytpeohbkigkfcgaa
open Go Go.ChangeShapes Go.WideShapes Go.ChangeAt Go.RowKit
set_option linter.unusedVariables false
/-- a file as an element of a map: it is held whole -/
def fileElem : Value → Option (DataW Value × List MemPlace)
  | .agg xs => match xs.toList with
    | [.slice p n c, .int .i64 y] => some (.held (.agg #[.slice p n c, .int .i64 y]), [])
    | _ => none
  | _ => none
theorem fileElem_mk (p : Option Addr) (n c : Nat) (y : Int) : fileElem (.agg #[.slice p n c, .int .i64 y]) = some (.held (.agg #[.slice p n c, .int .i64 y]), []) := rfl
theorem fileElem_inv {v : Value} {z : DataW Value × List MemPlace} (h : fileElem v = some z) : ∃ p n c y, v = .agg #[.slice p n c, .int .i64 y] ∧ z = (.held (.agg #[.slice p n c, .int .i64 y]), []) := by
  unfold fileElem at h
  split at h
  · rename_i xs
    split at h
    · rename_i p n c y he
      obtain ⟨l⟩ := xs
      simp only at he
      subst he
      exact ⟨p, n, c, y, rfl, (Option.some.inj h).symm⟩
    · cases h
  · cases h
theorem zero67 (w : World) : (zeroValue 67).run Try.prog w = .ok (.agg #[.slice none 0 0, .int .i64 0]) w := by kernel_rfl
theorem key9 {s : ByteArray} (h : s.size ≤ maxLen) : keyOf Try.prog 9 (.string s) = some (.string s.data.toList) := by
  simp [keyOf, mapKey, Try.underlying9, h]
theorem look_nil (s : ByteArray) (w : World) : (Instr.lookup 62 (.map none) (.string s) true).run Try.prog w = .ok (.tuple #[.agg #[.slice none 0 0, .int .i64 0], .bool false]) w := by kernel_rfl
/-- a disk lies at d -/
structure DiskAt (W : World) (d : Nat) (cap : Int) (mo : Option Nat) (fuse : Int) (down : Bool) (n : Nat) (D : DataW Value) : Prop where
  c0 : W.cell? ⟨d, 0, none⟩ = some (.int .i64 cap)
  c1 : W.cell? ⟨d, 1, none⟩ = some (.map mo)
  c2 : W.cell? ⟨d, 2, none⟩ = some (.int .i64 fuse)
  c3 : W.cell? ⟨d, 3, none⟩ = some (.bool down)
  files : (mo = none ∧ D = .map []) ∨ ∃ b, mo = some b ∧ W.ownsMap Try.prog 9 fileElem b n D
def noFile : Value := .agg #[.slice none 0 0, .int .i64 0]
/-- what find hands back -/
def FindOut (s : ByteArray) (D : DataW Value) (w : World) (e : Ending) (w' : World) : Prop :=
  (∃ p n c y er, e = .returned (.tuple #[.agg #[.slice p n c, .int .i64 y], .int .i64 er]) ∧
    ((nameS s = false ∧ er = 32) ∨ (nameS s = true ∧ Maps.has D (.string s.data.toList) = false ∧ er = 31) ∨ (nameS s = true ∧ Maps.has D (.string s.data.toList) = true ∧ er = 0 ∧ D.atKey (.string s.data.toList) (.held noFile) = .held (.agg #[.slice p n c, .int .i64 y]))) ∧ (er ≠ 0 → p = none ∧ n = 0 ∧ c = 0 ∧ y = 0)) ∧ Below w.heap.size w w'
theorem res121 : Try.f43.results = #[.cell 4 67, .tmp 5] := by rfl
theorem ret_file {w : World} {b n c : Nat} {p : Option Addr} {y : Int} {er : Value} {tmps : Array Value} (c0 : w.cell? ⟨b, 0, none⟩ = some (.slice p n c)) (c1 : w.cell? ⟨b, 1, none⟩ = some (.int .i64 y)) (h4 : tmps.getD 4 undef = .pointer (some ⟨b, 0, none⟩)) (h5 : tmps.getD 5 undef = er) :
    (results Try.f43 tmps).run Try.prog w = .ok (.tuple #[.agg #[.slice p n c, .int .i64 y], er]) w := by
  rw [results_cell_tmp res121, h4, h5]
  go_simp
set_option maxRecDepth 100000 in
set_option maxHeartbeats 4000000 in
theorem find_bad (s : ByteArray) (hs : s.size ≤ 9223372036854775807) (d : Nat) (D : DataW Value) (w : World) (hb : nameS s = false) : Calls Try.prog 43 #[.pointer (some ⟨d, 0, none⟩), .string s] w fun e w' => FindOut s D w e w' := by
  go_enter Try.func43, Try.ntmps43
  go_wp2_with fail
  refine (isName_any s hs _).mono ?_
  rintro e w1 ⟨rfl, hb1⟩
  rw [hb]
  have c0 : w1.cell? ⟨w.heap.size, 0, none⟩ = some (.slice none 0 0) := (hb1.cell (p := ⟨w.heap.size, 0, none⟩) (by simp)).trans (by simp)
  have c1 : w1.cell? ⟨w.heap.size, 1, none⟩ = some (.int .i64 0) := (hb1.cell (p := ⟨w.heap.size, 1, none⟩) (by simp)).trans (by simp)
  have f0 : w1.frozen? ⟨w.heap.size, 0, none⟩ = false := (hb1.frozen (p := ⟨w.heap.size, 0, none⟩) (by simp)).trans (by simp)
  have f1 : w1.frozen? ⟨w.heap.size, 1, none⟩ = false := (hb1.frozen (p := ⟨w.heap.size, 1, none⟩) (by simp)).trans (by simp)
  go_wp2_with fail
  refine bodyPost_ret (ret_file (b := w.heap.size) (p := none) (n := 0) (c := 0) (y := 0) (er := .int .i64 32) (by go_simp) (by go_simp) rfl rfl) rfl ?_
  exact ⟨⟨none, 0, 0, 0, 32, rfl, .inl ⟨hb, rfl⟩, fun _ => ⟨rfl, rfl, rfl, rfl⟩⟩, (((bal (Below.refl w.heap.size w) _).trans (hb1.mono (by simp))).setCell (p := ⟨w.heap.size, 0, none⟩) (Nat.le_refl _) _).setCell (p := ⟨w.heap.size, 1, none⟩) (Nat.le_refl _) _⟩
set_option maxRecDepth 100000 in
set_option maxHeartbeats 4000000 in
theorem find_good (s : ByteArray) (hs : s.size ≤ maxLen) (d b n : Nat) (cap fuse : Int) (down : Bool) (D : DataW Value) (w : World) (hD : DiskAt w d cap (some b) fuse down n D) (hm : w.ownsMap Try.prog 9 fileElem b n D) (hb : nameS s = true) :
    Calls Try.prog 43 #[.pointer (some ⟨d, 0, none⟩), .string s] w fun e w' => FindOut s D w e w' := by
  have hd1 : d < w.heap.size := World.block_lt_of_cell? w ⟨d, 1, none⟩ hD.c1
  have HM := hide hm; have HD := hide hD
  clear hm hD
  go_enter Try.func43, Try.ntmps43
  go_wp2_with fail
  refine (isName_any s (by unfold maxLen at hs; omega) _).mono ?_
  rintro e w1 ⟨rfl, hb1⟩
  rw [hb]
  have c0 : w1.cell? ⟨w.heap.size, 0, none⟩ = some (.slice none 0 0) := (hb1.cell (p := ⟨w.heap.size, 0, none⟩) (by simp)).trans (by simp)
  have c1 : w1.cell? ⟨w.heap.size, 1, none⟩ = some (.int .i64 0) := (hb1.cell (p := ⟨w.heap.size, 1, none⟩) (by simp)).trans (by simp)
  have f0 : w1.frozen? ⟨w.heap.size, 0, none⟩ = false := (hb1.frozen (p := ⟨w.heap.size, 0, none⟩) (by simp)).trans (by simp)
  have f1 : w1.frozen? ⟨w.heap.size, 1, none⟩ = false := (hb1.frozen (p := ⟨w.heap.size, 1, none⟩) (by simp)).trans (by simp)
  have B1 : Hid (Below w.heap.size w w1) := (bal (Below.refl w.heap.size w) _).trans (hb1.mono (by simp))
  have hz1 := (unhide B1).size
  have hz2 : w.heap.size < w1.heap.size := by have := hb1.size; simp at this; omega
  have dc : w1.cell? ⟨d, 1, none⟩ = some (.map (some b)) := ((unhide B1).cell (p := ⟨d, 1, none⟩) hd1).trans (unhide HD).c1
  have M1 := hide ((unhide HM).kept (grown_of_below (unhide B1)) (by simp))
  clear hb1
  cases hh : Maps.has D (.string s.data.toList) with
  | false =>
    go_wp2_with (at_lookup; refine wpList_lookup_own_ok _ rfl _ _ 62 rfl 9 67 (Maps.string_keyed Try.underlying9) Try.underlying62 fileElem (zero67 _) (.held noFile) [] rfl b n D rfl (unhide M1) _ (.string s.data.toList) rfl (key9 hs) ?_; intro v ps hv; obtain ⟨p, m, c, y, rfl, hz⟩ := fileElem_inv hv; have HV := hide (congrArg Prod.fst hz); clear hv hz)
    refine bodyPost_ret (ret_file (b := w.heap.size) (p := none) (n := 0) (c := 0) (y := 0) (er := .int .i64 31) (by go_simp) (by go_simp) rfl rfl) rfl ?_
    exact ⟨⟨none, 0, 0, 0, 31, rfl, .inr (.inl ⟨hb, hh, rfl⟩), fun _ => ⟨rfl, rfl, rfl, rfl⟩⟩, ((((unhide B1).setCell (p := ⟨w.heap.size, 0, none⟩) (Nat.le_refl _) _).setCell (p := ⟨w.heap.size, 1, none⟩) (Nat.le_refl _) _).alloc (by simp; omega) _)⟩
  | true =>
    go_wp2_with (at_lookup; refine wpList_lookup_own_ok _ rfl _ _ 62 rfl 9 67 (Maps.string_keyed Try.underlying9) Try.underlying62 fileElem (zero67 _) (.held noFile) [] rfl b n D rfl (unhide M1) _ (.string s.data.toList) rfl (key9 hs) ?_; intro v ps hv; obtain ⟨p, m, c, y, rfl, hz⟩ := fileElem_inv hv; have HV := hide (congrArg Prod.fst hz); clear hv hz)
    refine bodyPost_ret (ret_file (b := w.heap.size) (p := p) (n := m) (c := c) (y := y) (er := .int .i64 0) (by go_simp) (by go_simp) rfl rfl) rfl ?_
    exact ⟨⟨p, m, c, y, 0, rfl, .inr (.inr ⟨hb, hh, rfl, unhide HV⟩), fun h => absurd rfl h⟩, ((((unhide B1).setCell (p := ⟨w.heap.size, 0, none⟩) (Nat.le_refl _) _).setCell (p := ⟨w.heap.size, 1, none⟩) (Nat.le_refl _) _).alloc (by simp; omega) _)⟩
set_option maxRecDepth 100000 in
set_option maxHeartbeats 4000000 in
theorem find_nil (s : ByteArray) (hs : s.size ≤ maxLen) (d : Nat) (w : World) (hc : w.cell? ⟨d, 1, none⟩ = some (.map none)) (hb : nameS s = true) :
    Calls Try.prog 43 #[.pointer (some ⟨d, 0, none⟩), .string s] w fun e w' => FindOut s (.map []) w e w' := by
  have hd1 : d < w.heap.size := World.block_lt_of_cell? w ⟨d, 1, none⟩ hc
  go_enter Try.func43, Try.ntmps43
  go_wp2_with fail
  refine (isName_any s (by unfold maxLen at hs; omega) _).mono ?_
  rintro e w1 ⟨rfl, hb1⟩
  rw [hb]
  have c0 : w1.cell? ⟨w.heap.size, 0, none⟩ = some (.slice none 0 0) := (hb1.cell (p := ⟨w.heap.size, 0, none⟩) (by simp)).trans (by simp)
  have c1 : w1.cell? ⟨w.heap.size, 1, none⟩ = some (.int .i64 0) := (hb1.cell (p := ⟨w.heap.size, 1, none⟩) (by simp)).trans (by simp)
  have f0 : w1.frozen? ⟨w.heap.size, 0, none⟩ = false := (hb1.frozen (p := ⟨w.heap.size, 0, none⟩) (by simp)).trans (by simp)
  have f1 : w1.frozen? ⟨w.heap.size, 1, none⟩ = false := (hb1.frozen (p := ⟨w.heap.size, 1, none⟩) (by simp)).trans (by simp)
  have B1 : Hid (Below w.heap.size w w1) := (bal (Below.refl w.heap.size w) _).trans (hb1.mono (by simp))
  have hz1 := (unhide B1).size
  have hz2 : w.heap.size < w1.heap.size := by have := hb1.size; simp at this; omega
  have dc : w1.cell? ⟨d, 1, none⟩ = some (.map none) := ((unhide B1).cell (p := ⟨d, 1, none⟩) hd1).trans hc
  have hl : (Instr.lookup 62 (.map none) (.string s) true).run Try.prog w1 = .ok (.tuple #[.agg #[.slice none 0 0, .int .i64 0], .bool false]) w1 := look_nil s w1
  clear hb1
  go_wp2_with fail
  refine bodyPost_ret (ret_file (b := w.heap.size) (p := none) (n := 0) (c := 0) (y := 0) (er := .int .i64 31) (by go_simp) (by go_simp) rfl rfl) rfl ?_
  exact ⟨⟨none, 0, 0, 0, 31, rfl, .inr (.inl ⟨hb, rfl, rfl⟩), fun _ => ⟨rfl, rfl, rfl, rfl⟩⟩, ((((unhide B1).setCell (p := ⟨w.heap.size, 0, none⟩) (Nat.le_refl _) _).setCell (p := ⟨w.heap.size, 1, none⟩) (Nat.le_refl _) _).alloc (by simp; omega) _)⟩
theorem find_any (s : ByteArray) (hs : s.size ≤ maxLen) (d n : Nat) (mo : Option Nat) (cap fuse : Int) (down : Bool) (D : DataW Value) (w : World) (hD : DiskAt w d cap mo fuse down n D) :
    Calls Try.prog 43 #[.pointer (some ⟨d, 0, none⟩), .string s] w fun e w' => FindOut s D w e w' := by
  cases hb : nameS s with
  | false => exact find_bad s (by unfold maxLen at hs; omega) d D w hb
  | true =>
    rcases hD.files with ⟨rfl, rfl⟩ | ⟨b, rfl, hm⟩
    · exact find_nil s hs d w hD.c1 hb
    · exact find_good s hs d b n cap fuse down D w hD hm hb
end Go.Proofs.Ytpeohbkigkfcgaa
