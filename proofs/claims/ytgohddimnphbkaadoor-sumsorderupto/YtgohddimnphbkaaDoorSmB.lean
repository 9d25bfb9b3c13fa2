/- sums: what a view is in memory; New (7), Own (17), Rollup (10), Totals (15), column (28). -/
import Derived.Test.YtgohddimnphbkaaDoorSmA
namespace Go.Proofs.YtgohddimnphbkaaDoor
open Go Go.ChangeShapes Go.WideShapes Go.ChangeAt Go.RowKit Go.Maps
set_option linter.unusedVariables false
/-- a view in memory: its block, its two maps, its two sides -/
structure SumsAt (w : World) (d : Nat) (mo mr : Option Nat) (n : Nat) (f g : List UInt8 → Int) (a c : Int) : Prop where
  c0 : w.cell? ⟨d, 0, none⟩ = some (.map mo)
  c1 : w.cell? ⟨d, 1, none⟩ = some (.map mr)
  c2 : w.cell? ⟨d, 2, none⟩ = some (.int .i64 a)
  c3 : w.cell? ⟨d, 3, none⟩ = some (.int .i64 c)
  fz : ∀ j, w.frozen? ⟨d, j, none⟩ = false
  own : MapAt 2 w mo n f
  rol : MapAt 2 w mr n g
  d0 : ∀ b, mo = some b → d ≠ b
  d1 : ∀ b, mr = some b → d ≠ b
  ab : ∀ b, mo = some b → mr ≠ some b
/-- the view's own blocks -/
def Blk (d : Nat) (mo mr : Option Nat) (k : Nat) : Prop := k = d ∨ mo = some k ∨ mr = some k
theorem SumsAt.lt {w : World} {d : Nat} {mo mr : Option Nat} {n : Nat} {f g : List UInt8 → Int} {a c : Int} (h : SumsAt w d mo mr n f g a c) : ∀ k, Blk d mo mr k → k < w.heap.size := by
  rintro k (rfl | rfl | rfl)
  · exact World.block_lt_of_cell? w _ h.c0
  · exact h.own.lt
  · exact h.rol.lt
theorem SumsAt.block {w w' : World} {d : Nat} {mo mr : Option Nat} {n : Nat} {f g : List UInt8 → Int} {a c : Int} (h : SumsAt w d mo mr n f g a c) (hb : ∀ k, Blk d mo mr k → w'.heap[k]? = w.heap[k]?) : SumsAt w' d mo mr n f g a c :=
  have e : ∀ j, w'.cell? ⟨d, j, none⟩ = w.cell? ⟨d, j, none⟩ := fun j => World.cell?_of_block (a := ⟨d, j, none⟩) (hb d (.inl rfl))
  ⟨(e 0).trans h.c0, (e 1).trans h.c1, (e 2).trans h.c2, (e 3).trans h.c3, fun j => (World.frozen?_of_block (a := ⟨d, j, none⟩) (hb d (.inl rfl))).trans (h.fz j),
    h.own.block (fun b hb' => hb b (.inr (.inl hb'))), h.rol.block (fun b hb' => hb b (.inr (.inr hb'))), h.d0, h.d1, h.ab⟩
theorem SumsAt.below {w w' : World} {d : Nat} {mo mr : Option Nat} {n : Nat} {f g : List UInt8 → Int} {a c : Int} (h : SumsAt w d mo mr n f g a c) (hb : Below w.heap.size w w') : SumsAt w' d mo mr n f g a c :=
  h.block (fun k hk => hb.block k (h.lt k hk))
/-- all but the blocks S is as it was -/
structure Fr (S : Nat → Prop) (w w' : World) : Prop where
  os : w'.os = w.os
  tape : w'.tape = w.tape
  output : w'.output = w.output
  size : w.heap.size ≤ w'.heap.size
  block : ∀ k, k < w.heap.size → ¬ S k → w'.heap[k]? = w.heap[k]?
theorem Fr.refl (S : Nat → Prop) (w : World) : Fr S w w := ⟨rfl, rfl, rfl, Nat.le_refl _, fun _ _ _ => rfl⟩
theorem Fr.below {S : Nat → Prop} {w w' : World} (h : Below w.heap.size w w') : Fr S w w' := ⟨h.os, h.tape, h.output, h.size, fun k hk _ => h.block k hk⟩
theorem Fr.trans {S T : Nat → Prop} {w w' w'' : World} (h : Fr S w w') (k : Fr T w' w'') (hT : ∀ i, T i → S i ∨ w.heap.size ≤ i) : Fr S w w'' :=
  ⟨k.os.trans h.os, k.tape.trans h.tape, k.output.trans h.output, Nat.le_trans h.size k.size, fun i hi hs => (k.block i (Nat.lt_of_lt_of_le hi h.size) (fun ht => (hT i ht).elim hs (fun q => by omega))).trans (h.block i hi hs)⟩
theorem Fr.toBelow {S : Nat → Prop} {w w' : World} (h : Fr S w w') {B : Nat} (hB : B ≤ w.heap.size) (hS : ∀ k, S k → B ≤ k) : Below B w w' :=
  ⟨h.os, h.tape, h.output, h.size, fun k hk => h.block k (by omega) (fun hs => by have := hS k hs; omega)⟩
set_option maxHeartbeats 1000000 in
theorem new_any (w : World) : Calls Tryd.prog 7 #[] w fun e w' => e = .returned (.pointer (some ⟨w.heap.size, 0, none⟩)) ∧ w' = w.alloc (.cells #[.map none, .map none, .int .i64 0, .int .i64 0] 56) := by
  go_enter Tryd.func7, Tryd.ntmps7
  go_wp2_with fail
  go_ret
  exact ⟨rfl, rfl⟩
theorem new_at (w : World) (n : Nat) : SumsAt (w.alloc (.cells #[.map none, .map none, .int .i64 0, .int .i64 0] 56)) w.heap.size none none n (fun _ => 0) (fun _ => 0) 0 0 where
  c0 := by rw [World.cell?_alloc_mark]; rfl
  c1 := by rw [World.cell?_alloc_mark]; rfl
  c2 := by rw [World.cell?_alloc_mark]; rfl
  c3 := by rw [World.cell?_alloc_mark]; rfl
  fz j := by simp
  own := .inl ⟨rfl, fun _ => rfl⟩
  rol := .inl ⟨rfl, fun _ => rfl⟩
  d0 b h := by cases h
  d1 b h := by cases h
  ab b h := by cases h
set_option maxHeartbeats 1000000 in
theorem own_any (s : ByteArray) (hs : s.size ≤ maxLen) (d : Nat) (mo mr : Option Nat) (n : Nat) (f g : List UInt8 → Int) (a c : Int) (w : World) (h : SumsAt w d mo mr n f g a c) :
    Calls Tryd.prog 17 #[.pointer (some ⟨d, 0, none⟩), .string s] w fun e w' => e = .returned (.int .i64 (f s.data.toList)) ∧ w' = w := by
  have dc := hide (of_any s hs d 0 n mo f w h.c0 h.own)
  clear h
  go_enter Tryd.func17, Tryd.ntmps17
  go_wp2_with fail
  refine (unhide dc).mono ?_
  rintro e w1 ⟨rfl, hw⟩
  rw [hw]
  clear hw
  go_wp2_with fail
  go_ret
  exact ⟨rfl, rfl⟩
set_option maxHeartbeats 1000000 in
theorem roll_any (s : ByteArray) (hs : s.size ≤ maxLen) (d : Nat) (mo mr : Option Nat) (n : Nat) (f g : List UInt8 → Int) (a c : Int) (w : World) (h : SumsAt w d mo mr n f g a c) :
    Calls Tryd.prog 10 #[.pointer (some ⟨d, 0, none⟩), .string s] w fun e w' => e = .returned (.int .i64 (g s.data.toList)) ∧ w' = w := by
  have dc := hide (of_any s hs d 1 n mr g w h.c1 h.rol)
  clear h
  go_enter Tryd.func10, Tryd.ntmps10
  go_wp2_with fail
  refine (unhide dc).mono ?_
  rintro e w1 ⟨rfl, hw⟩
  rw [hw]
  clear hw
  go_wp2_with fail
  go_ret
  exact ⟨rfl, rfl⟩
set_option maxHeartbeats 1000000 in
theorem totals_any (d : Nat) (mo mr : Option Nat) (n : Nat) (f g : List UInt8 → Int) (a c : Int) (w : World) (h : SumsAt w d mo mr n f g a c) :
    Calls Tryd.prog 15 #[.pointer (some ⟨d, 0, none⟩)] w fun e w' => e = .returned (.tuple #[.int .i64 a, .int .i64 c]) ∧ ∃ m, w' = w.drewN m := by
  have h2 := h.c2
  have h3 := h.c3
  clear h
  go_enter Tryd.func15, Tryd.ntmps15
  go_wp2_with fail
  go_quiet (fail)
  go_wp2_with fail
  go_ret2
  exact ⟨rfl, _, rfl⟩
/-- an own balance on its side -/
theorem result28 {tmps : Array Value} {w : World} {p : Nat} {s : ByteArray} {x y : Int} (hp : tmps[4]?.getD undef = .pointer (some ⟨p, 0, none⟩)) (h0 : w.cell? ⟨p, 0, none⟩ = some (.string s)) (h1 : w.cell? ⟨p, 1, none⟩ = some (.int .i64 x)) (h2 : w.cell? ⟨p, 2, none⟩ = some (.int .i64 y)) :
    (results Tryd.f28 tmps).run Tryd.prog w = .ok (.agg #[.string s, .int .i64 x, .int .i64 y]) w := by
  simp [results, hp, asAddr, go_sem, h0, h1, h2]
set_option maxRecDepth 100000 in
set_option maxHeartbeats 1000000 in
theorem column_any (s : ByteArray) (v : Int) (hv : -9223372036854775807 ≤ v) (hv' : v ≤ 9223372036854775807) (w : World) :
    Calls Tryd.prog 28 #[.string s, .int .i64 v] w fun e w' => e = .returned (.agg #[.string s, .int .i64 (pos v), .int .i64 (neg v)]) ∧ Below w.heap.size w w' := by
  by_cases h : v > 0
  · have hp : pos v = v := if_pos h
    have hn : neg v = 0 := if_pos h
    have hd : decide (v > 0) = true := by simpa using h
    have hd2 : decide (0 < v) = true := by simpa using h
    rw [hp, hn]
    clear hp hn hv hv'
    go_enter Tryd.func28, Tryd.ntmps28
    go_wp2_with fail
    refine ⟨rfl, _, result28 (p := w.heap.size) (s := s) (x := v) (y := 0) rfl (by rw [World.cell?_alloc_mark]; rfl) (by rw [World.cell?_alloc_mark]; rfl) (by rw [World.cell?_alloc_mark]; rfl), rfl, (Below.refl _ _).alloc (Nat.le_refl _) _⟩
  · have hp : pos v = 0 := if_neg h
    have hn : neg v = -v := if_neg h
    have hd : decide (v > 0) = false := by simpa using h
    have hd2 : decide (0 < v) = false := by simpa using h
    rw [hp, hn]
    have hw : IntKind.i64.wrap (-v) = -v := by
      rw [IntKind.wrap_i64]; omega
    clear hp hn
    go_enter Tryd.func28, Tryd.ntmps28
    go_wp2_with fail
    refine ⟨rfl, _, result28 (p := w.heap.size) (s := s) (x := 0) (y := -v) rfl (by rw [World.cell?_alloc_mark]; rfl) (by rw [World.cell?_alloc_mark]; rfl) (by rw [World.cell?_alloc_mark]; rfl), rfl, (Below.refl _ _).alloc (Nat.le_refl _) _⟩
end Go.Proofs.YtgohddimnphbkaaDoor
