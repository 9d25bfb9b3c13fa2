/- disk: put (36). -/
import Derived.Test.YtpeohbkigkfcgaaDskB
import Derived.Lib.BufferWrite
namespace Go.Proofs.Ytpeohbkigkfcgaa
open Go Go.ChangeShapes Go.WideShapes Go.ChangeAt Go.RowKit
set_option linter.unusedVariables false
theorem map_some (b : Nat) (w : World) : (binOp .eql 62 (.map (some b)) (.map none)).run Try.prog w = .ok (.bool false) w := by kernel_rfl
theorem map_none (w : World) : (binOp .eql 62 (.map none) (.map none)).run Try.prog w = .ok (.bool true) w := by kernel_rfl
/-- what put leaves: the file under its name; all but the disk's own blocks as it was -/
def PutOut (s : ByteArray) (v : Value) (d : Nat) (cap : Int) (mo : Option Nat) (fuse : Int) (down : Bool) (n : Nat) (D : DataW Value) (w : World) (e : Ending) (w' : World) : Prop :=
  (∃ r, e = .returned r) ∧ ∃ b', DiskAt w' d cap (some b') fuse down (n + 1) (D.put (.string s.data.toList) (.held v)) ∧ (mo = some b' ∨ (mo = none ∧ w.heap.size ≤ b')) ∧
    w'.os = w.os ∧ w'.tape = w.tape ∧ w'.output = w.output ∧ w.heap.size ≤ w'.heap.size ∧ (∀ k, k < w.heap.size → some k ≠ mo → (mo = none → k ≠ d) → w'.heap[k]? = w.heap[k]?) ∧ ∀ j, w'.frozen? ⟨d, j, none⟩ = w.frozen? ⟨d, j, none⟩
set_option maxRecDepth 100000 in
set_option maxHeartbeats 4000000 in
theorem put_some (s : ByteArray) (hs : s.size ≤ maxLen) (p : Option Addr) (m c : Nat) (y : Int) (d b n : Nat) (hn : n < maxLen) (cap fuse : Int) (down : Bool) (D : DataW Value) (w : World) (hD : DiskAt w d cap (some b) fuse down n D) (hm : w.ownsMap Try.prog 9 fileElem b n D) (hdb : d ≠ b) :
    Calls Try.prog 37 #[.pointer (some ⟨d, 0, none⟩), .string s, .agg #[.slice p m c, .int .i64 y]] w fun e w' => PutOut s (.agg #[.slice p m c, .int .i64 y]) d cap (some b) fuse down n D w e w' := by
  have hd1 : d < w.heap.size := World.block_lt_of_cell? w ⟨d, 1, none⟩ hD.c1
  have dc := hD.c1
  obtain ⟨w', hrun, hm', hg'⟩ := ((hm.alloc (.cells #[.slice p m c, .int .i64 y] 67)).drew).update (t := 62) (e := 67) (Maps.string_keyed Try.underlying9) Try.underlying62 hn (key9 hs) (fileElem_mk p m c y)
  have hca : (w.alloc (.cells #[.slice p m c, .int .i64 y] 67)).cell? ⟨d, 1, none⟩ = some (.map (some b)) := (Below.cell ((Below.refl w.heap.size w).alloc (Nat.le_refl _) _) (p := ⟨d, 1, none⟩) hd1).trans dc
  have HM := hide hm'; have HG := hide hg'; have HD := hide hD
  clear hm' hg' hD hm
  have hms := fun W => map_some b W
  go_enter Try.func37, Try.ntmps37
  go_wp2_with fail
  go_region
  all_goals go_wp2_with fail
  go_end0
  have hg := unhide HG
  have hold : ∀ k, k < w.heap.size → k ≠ b → w'.heap[k]? = w.heap[k]? := fun k hk hne => (hg.block k (by simp; omega) (fun e => hne (Option.some.inj e))).trans (Below.heap_alloc w _ k hk)
  have hcell : ∀ j, w'.cell? ⟨d, j, none⟩ = w.cell? ⟨d, j, none⟩ := fun j => World.cell?_of_block (a := ⟨d, j, none⟩) (hold d hd1 hdb)
  refine ⟨⟨_, rfl⟩, b, ⟨(hcell 0).trans (unhide HD).c0, (hcell 1).trans (unhide HD).c1, (hcell 2).trans (unhide HD).c2, (hcell 3).trans (unhide HD).c3, .inr ⟨b, rfl, unhide HM⟩⟩, .inl rfl, hg.os, hg.tape, hg.output, ?_, fun k hk h1 _ => hold k hk (fun e => h1 (by rw [e])), fun j => World.frozen?_of_block (a := ⟨d, j, none⟩) (hold d hd1 hdb)⟩
  have := hg.size
  simp at this
  omega
set_option maxRecDepth 100000 in
set_option maxHeartbeats 4000000 in
theorem put_none (s : ByteArray) (hs : s.size ≤ maxLen) (p : Option Addr) (m c : Nat) (y : Int) (d n : Nat) (cap fuse : Int) (down : Bool) (w : World) (hD : DiskAt w d cap none fuse down n (.map [])) (hf : w.frozen? ⟨d, 1, none⟩ = false) :
    Calls Try.prog 37 #[.pointer (some ⟨d, 0, none⟩), .string s, .agg #[.slice p m c, .int .i64 y]] w fun e w' => PutOut s (.agg #[.slice p m c, .int .i64 y]) d cap none fuse down n (.map []) w e w' := by
  have hd1 : d < w.heap.size := World.block_lt_of_cell? w ⟨d, 1, none⟩ hD.c1
  have dc := hD.c1
  have hB : Below w.heap.size w ((w.alloc (.cells #[.slice p m c, .int .i64 y] 67)).alloc (.map #[] 0)) := bal (bal (Below.refl w.heap.size w) _) _
  have hsz : (w.setCell ⟨d, 1, none⟩ (.map (some (w.heap.size + 1)))).heap.size = w.heap.size := by simp
  have hm0 : (((w.setCell ⟨d, 1, none⟩ (.map (some (w.heap.size + 1)))).alloc (.cells #[.slice p m c, .int .i64 y] 67)).alloc (.map #[] 0)).ownsMap Try.prog 9 fileElem (w.heap.size + 1) 0 (.map []) := by
    have h := World.ownsMap_made ((w.setCell ⟨d, 1, none⟩ (.map (some (w.heap.size + 1)))).alloc (.cells #[.slice p m c, .int .i64 y] 67)) Try.prog 9 fileElem
    rw [World.size_alloc, hsz] at h
    exact h
  obtain ⟨w', hrun, hm', hg'⟩ := (hm0.drew).update (t := 62) (e := 67) (Maps.string_keyed Try.underlying9) Try.underlying62 (by unfold maxLen; omega) (key9 hs) (fileElem_mk p m c y)
  have hca : (w.alloc (.cells #[.slice p m c, .int .i64 y] 67)).cell? ⟨d, 1, none⟩ = some (.map none) := (Below.cell (bal (Below.refl w.heap.size w) _) (p := ⟨d, 1, none⟩) hd1).trans dc
  have hcb : ((w.alloc (.cells #[.slice p m c, .int .i64 y] 67)).alloc (.map #[] 0)).cell? ⟨d, 1, none⟩ = some (.map none) := (hB.cell (p := ⟨d, 1, none⟩) hd1).trans dc
  have hfb : ((w.alloc (.cells #[.slice p m c, .int .i64 y] 67)).alloc (.map #[] 0)).frozen? ⟨d, 1, none⟩ = false := (hB.frozen (p := ⟨d, 1, none⟩) hd1).trans hf
  have HM := hide hm'; have HG := hide hg'; have HD := hide hD; have HB := hide hB
  clear hm' hg' hD hm0 hB
  have hms := fun W => map_none W
  have hmk := fun W => run_makeMap (P := Try.prog) 62 W
  go_enter Try.func37, Try.ntmps37
  go_wp2_with fail
  go_region
  all_goals go_wp2_with fail
  go_end0
  have hg := unhide HG
  have hold : ∀ k, k < w.heap.size → w'.heap[k]? = (w.setCell ⟨d, 1, none⟩ (.map (some (w.heap.size + 1)))).heap[k]? := fun k hk => (hg.block k (by simp; omega) (fun e => by injection e with e; omega)).trans ((Below.heap_alloc _ _ k (by simp; omega)).trans (Below.heap_alloc _ _ k (by rw [hsz]; exact hk)))
  have hcell : ∀ j, w'.cell? ⟨d, j, none⟩ = (w.setCell ⟨d, 1, none⟩ (.map (some (w.heap.size + 1)))).cell? ⟨d, j, none⟩ := fun j => World.cell?_of_block (a := ⟨d, j, none⟩) (hold d hd1)
  have e0 := (unhide HD).c0
  have e2 := (unhide HD).c2
  have e3 := (unhide HD).c3
  refine ⟨⟨_, rfl⟩, w.heap.size + 1, ⟨(hcell 0).trans (by go_simp), (hcell 1).trans (by go_simp), (hcell 2).trans (by go_simp), (hcell 3).trans (by go_simp), .inr ⟨_, rfl, (unhide HM).mono (by omega)⟩⟩, .inr ⟨rfl, by omega⟩, hg.os, hg.tape, hg.output, ?_, fun k hk _ h2 => (hold k hk).trans (Below.heap_setCell _ ⟨d, 1, none⟩ _ k (h2 rfl)), fun j => (World.frozen?_of_block (a := ⟨d, j, none⟩) (hold d hd1)).trans (by rw [World.frozen?_setCell])⟩
  have := hg.size
  simp at this
  omega
theorem put_any (s : ByteArray) (hs : s.size ≤ maxLen) (p : Option Addr) (m c : Nat) (y : Int) (d n : Nat) (hn : n < maxLen) (mo : Option Nat) (cap fuse : Int) (down : Bool) (D : DataW Value) (w : World) (hD : DiskAt w d cap mo fuse down n D) (hdb : ∀ b, mo = some b → d ≠ b) (hf : w.frozen? ⟨d, 1, none⟩ = false) :
    Calls Try.prog 37 #[.pointer (some ⟨d, 0, none⟩), .string s, .agg #[.slice p m c, .int .i64 y]] w fun e w' => PutOut s (.agg #[.slice p m c, .int .i64 y]) d cap mo fuse down n D w e w' := by
  rcases hD.files with ⟨rfl, rfl⟩ | ⟨b, rfl, hm⟩
  · exact put_none s hs p m c y d n cap fuse down w hD hf
  · exact put_some s hs p m c y d b n hn cap fuse down D w hD hm (hdb b rfl)
end Go.Proofs.Ytpeohbkigkfcgaa
