import Derived.Test.YtpeefmbdhkfhmaaGreatDoorW02
import Derived.Maps.OwnSet
import Derived.Maps.OwnOps
/- sums: maps of sums; adder.add (21), adder.of (26). -/
namespace Go.Proofs.YtpeefmbdhkfhmaaGreatDoor
open Go Go.ChangeShapes Go.WideShapes Go.ChangeAt Go.RowKit Go.Maps
set_option linter.unusedVariables false
theorem keyM {s : ByteArray} (hs : s.size ≤ maxLen) : keyOf Tryz.prog 9 (.string s) = some (.string s.data.toList) := by
  simp [keyOf, mapKey, Tryz.underlying9, hs]
/-- what a map of sums reads as: each name at its number, none at 0 -/
structure Sm (D : DataW Unit) (f : List UInt8 → Int) : Prop where
  val : ∀ n, D.atKey (.string n) (.lit (.int .i64 0)) = .lit (.int .i64 (f n))
  key : ∀ n, Maps.has D (.string n) = decide (f n ≠ 0)
  wf : ∀ n, (Lit.int .i64 (f n)).wf = true
def upd (f : List UInt8 → Int) (s : List UInt8) (x : Int) : List UInt8 → Int := fun n => if n = s then x else f n
theorem Sm.put {D : DataW Unit} {f : List UInt8 → Int} (h : Sm D f) (hD : IsMap D) (s : List UInt8) {x : Int} (hx : x ≠ 0) (hw : (Lit.int .i64 x).wf = true) : Sm (D.put (.string s) (.lit (.int .i64 x))) (upd f s x) where
  val n := by
    by_cases e : n = s
    · subst e; rw [atKey_put_same hD (by trivial)]; simp [upd]
    · rw [atKey_put_other (by simpa using e), h.val]; simp [upd, e]
  key n := by
    by_cases e : n = s
    · subst e; rw [has_put_same hD (by trivial)]; simp [upd, hx]
    · rw [has_put_other (by simpa using e), h.key]; simp [upd, e]
  wf n := by
    by_cases e : n = s
    · subst e; simpa [upd] using hw
    · simpa [upd, e] using h.wf n
theorem Sm.putDel {D : DataW Unit} {f : List UInt8 → Int} (h : Sm D f) (s : List UInt8) (d : DataW Unit) : Sm ((D.put (.string s) d).del (.string s)) (upd f s 0) where
  val n := by
    by_cases e : n = s
    · subst e; rw [atKey_del_same]; simp [upd]
    · rw [atKey_del_other (by simpa using e), atKey_put_other (by simpa using e), h.val]; simp [upd, e]
  key n := by
    by_cases e : n = s
    · subst e; rw [has_del_same]; simp [upd]
    · rw [has_del_other (by simpa using e), has_put_other (by simpa using e), h.key]; simp [upd, e]
  wf n := by
    by_cases e : n = s
    · subst e; simp [upd]; decide
    · simpa [upd, e] using h.wf n
theorem Sm.none : Sm (.map []) (fun _ => 0) where
  val n := rfl
  key n := by simp [has_eq]
  wf n := by decide
/-- a map of sums in memory, or none yet: E the type of its elements -/
def MapAt (E : TypeId) (w : World) (mo : Option Nat) (n : Nat) (f : List UInt8 → Int) : Prop :=
  (mo = none ∧ ∀ x, f x = 0) ∨ ∃ b D, mo = some b ∧ w.ownsMap Tryz.prog 9 (plainElem Tryz.prog E) b n D ∧ Sm D f
theorem MapAt.kept {E : TypeId} {w w' : World} {mo : Option Nat} {n : Nat} {f : List UInt8 → Int} {row : Option Nat} (h : MapAt E w mo n f) (hg : w.grownBy w' row) (hr : ∀ b, mo = some b → some b ≠ row) : MapAt E w' mo n f := by
  rcases h with ⟨rfl, h⟩ | ⟨b, D, rfl, hm, hs⟩
  · exact .inl ⟨rfl, h⟩
  · exact .inr ⟨b, D, rfl, hm.kept hg (hr b rfl), hs⟩
theorem MapAt.block {E : TypeId} {w w' : World} {mo : Option Nat} {n : Nat} {f : List UInt8 → Int} (h : MapAt E w mo n f) (hr : ∀ b, mo = some b → w'.heap[b]? = w.heap[b]?) : MapAt E w' mo n f := by
  rcases h with ⟨rfl, h⟩ | ⟨b, D, rfl, hm, hs⟩
  · exact .inl ⟨rfl, h⟩
  · obtain ⟨es, clock, hb, r⟩ := hm
    exact .inr ⟨b, D, rfl, ⟨es, clock, (hr b rfl).trans hb, r⟩, hs⟩
theorem MapAt.mono {E : TypeId} {w : World} {mo : Option Nat} {n n' : Nat} {f : List UInt8 → Int} (h : MapAt E w mo n f) (hn : n ≤ n') : MapAt E w mo n' f := by
  rcases h with h | ⟨b, D, rfl, hm, hs⟩
  · exact .inl h
  · exact .inr ⟨b, D, rfl, hm.mono hn, hs⟩
theorem MapAt.lt {E : TypeId} {w : World} {b n : Nat} {f : List UInt8 → Int} (h : MapAt E w (some b) n f) : b < w.heap.size := by
  rcases h with ⟨h, _⟩ | ⟨b', D, e, hm, hs⟩
  · cases h
  · cases e; exact hm.lt
theorem MapAt.wf {E : TypeId} {w : World} {mo : Option Nat} {n : Nat} {f : List UInt8 → Int} (h : MapAt E w mo n f) (x : List UInt8) : (Lit.int .i64 (f x)).wf = true := by
  rcases h with ⟨_, h⟩ | ⟨b, D, rfl, hm, hs⟩
  · rw [h]; decide
  · exact hs.wf x
/-- what add leaves -/
structure AddOut (E : TypeId) (s : ByteArray) (x : Int) (d o : Nat) (mo : Option Nat) (n : Nat) (f : List UInt8 → Int) (w : World) (e : Ending) (w' : World) (b' : Nat) : Prop where
  ret : ∃ r, e = .returned r
  cell : w'.cell? ⟨d, o, none⟩ = some (.map (some b'))
  map : MapAt E w' (some b') (n + 1) (upd f s.data.toList (IntKind.i64.wrap (f s.data.toList + x)))
  what : mo = some b' ∨ (mo = none ∧ w.heap.size ≤ b')
  os : w'.os = w.os
  tape : w'.tape = w.tape
  output : w'.output = w.output
  size : w.heap.size ≤ w'.heap.size
  old : ∀ k, k < w.heap.size → some k ≠ mo → (mo = none → k ≠ d) → w'.heap[k]? = w.heap[k]?
  cells : ∀ j, j ≠ o → w'.cell? ⟨d, j, none⟩ = w.cell? ⟨d, j, none⟩
  frozen : ∀ j, w'.frozen? ⟨d, j, none⟩ = w.frozen? ⟨d, j, none⟩
theorem u2 : Tryz.prog.underlying 2 = some (.int .i64) := Tryz.underlying2
theorem zero2 (w : World) : (zeroValue 2).run Tryz.prog w = .ok (.int .i64 0) w := by kernel_rfl
theorem map_some52 (b : Nat) (w : World) : (binOp .eql 78 (.map (some b)) (.map none)).run Tryz.prog w = .ok (.bool false) w := by kernel_rfl
theorem map_none52 (w : World) : (binOp .eql 78 (.map none) (.map none)).run Tryz.prog w = .ok (.bool true) w := by kernel_rfl
theorem wrap_wf (x : Int) : (Lit.int .i64 (IntKind.i64.wrap x)).wf = true := by
  have h := wrap64_wf x
  rw [IntKind.wrap_i64 x]
  unfold wrap64 at h
  exact h
set_option maxRecDepth 100000 in
set_option maxHeartbeats 2000000 in
theorem add_some (s : ByteArray) (hs : s.size ≤ maxLen) (x : Int) (d o b n : Nat) (hn : n < maxLen) (f : List UInt8 → Int) (D : DataW Unit) (w : World) (hc : w.cell? ⟨d, o, none⟩ = some (.map (some b))) (hm : w.ownsMap Tryz.prog 9 (plainElem Tryz.prog 2) b n D) (hS : Sm D f) (hdb : d ≠ b) :
    Calls Tryz.prog 83 #[.pointer (some ⟨d, o, none⟩), .string s, .int .i64 x] w fun e w' => AddOut 2 s x d o (some b) n f w e w' b := by
  have K : Keyed Tryz.prog 9 := string_keyed Tryz.underlying9
  have hd1 : d < w.heap.size := World.block_lt_of_cell? w ⟨d, o, none⟩ hc
  obtain ⟨c, hr1, ha1, _⟩ := hm.lookup_int K Tryz.underlying78 u2 (zero2 _) (keyM hs)
  rw [hS.val] at ha1
  have hF : c = f s.data.toList := by injection ha1 with ha1; injection ha1 with _ ha1; exact ha1.symm
  obtain ⟨Y, hY⟩ : ∃ Y, IntKind.i64.wrap (c + x) = Y := ⟨_, rfl⟩
  have hYw : (Lit.int .i64 Y).wf = true := by rw [← hY]; exact wrap_wf _
  obtain ⟨w1, hr2, hm1, hg1⟩ := hm.update K Tryz.underlying78 hn (keyM hs) (plainElem_int u2 hYw)
  obtain ⟨c2, hr3, ha3, _⟩ := hm1.lookup_int K Tryz.underlying78 u2 (zero2 _) (keyM hs)
  rw [atKey_put_same hm.isMap (by trivial)] at ha3
  have hc2 : c2 = Y := by injection ha3 with ha3; injection ha3 with _ ha3; exact ha3.symm
  subst hc2
  have hold1 : ∀ k, k < w.heap.size → k ≠ b → w1.heap[k]? = w.heap[k]? := fun k hk hne => hg1.block k hk (fun e => hne (Option.some.inj e))
  have hc1 : w1.cell? ⟨d, o, none⟩ = some (.map (some b)) := (World.cell?_of_block (a := ⟨d, o, none⟩) (hold1 d hd1 hdb)).trans hc
  have hms := fun W => map_some52 b W
  by_cases hy : c2 = 0
  · subst hy
    obtain ⟨w2, hr4, hm2, ht2⟩ := hm1.drop K Tryz.underlying78 (keyM hs) 0
    have HM := hide hm2; have HG1 := hide hg1; have HG2 := hide ht2.grown; have HF := hide hF; have HS := hide hS; have HC := hide hc; have HO := hide hold1; have HY := hide hY; have HW := hide hm.isMap
    clear ha1 ha3 hm2 hg1 ht2 hF hS hm hm1 hold1
    go_enter Tryz.func83, Tryz.ntmps83
    go_wp2_with fail
    go_end0
    have hg2 := unhide HG2
    have hold : ∀ k, k < w.heap.size → k ≠ b → w2.heap[k]? = w.heap[k]? := fun k hk hne => (hg2.block k (Nat.lt_of_lt_of_le hk (unhide HG1).size) (fun e => hne (Option.some.inj e))).trans (unhide HO k hk hne)
    have hcell : ∀ j, w2.cell? ⟨d, j, none⟩ = w.cell? ⟨d, j, none⟩ := fun j => World.cell?_of_block (a := ⟨d, j, none⟩) (hold d hd1 hdb)
    refine ⟨⟨_, rfl⟩, (hcell o).trans (unhide HC), .inr ⟨b, _, rfl, unhide HM, ?_⟩, .inl rfl, hg2.os.trans (unhide HG1).os, hg2.tape.trans (unhide HG1).tape, hg2.output.trans (unhide HG1).output, Nat.le_trans (unhide HG1).size hg2.size, fun k hk h1 _ => hold k hk (fun e => h1 (by rw [e])), fun j _ => hcell j, fun j => World.frozen?_of_block (a := ⟨d, j, none⟩) (hold d hd1 hdb)⟩
    rw [← unhide HF, unhide HY]
    exact (unhide HS).putDel _ _
  · have HM := hide hm1; have HG1 := hide hg1; have HF := hide hF; have HS := hide hS; have HC := hide hc; have HO := hide hold1; have HY := hide hY; have HN := hide hy; have HW := hide hm.isMap
    have hyb : (c2 == 0) = false := by simpa using hy
    clear ha1 ha3 hg1 hF hS hm hm1 hold1
    go_enter Tryz.func83, Tryz.ntmps83
    go_wp2_with fail
    go_end0
    have hg1 := unhide HG1
    have hold := unhide HO
    have hcell : ∀ j, w1.cell? ⟨d, j, none⟩ = w.cell? ⟨d, j, none⟩ := fun j => World.cell?_of_block (a := ⟨d, j, none⟩) (hold d hd1 hdb)
    refine ⟨⟨_, rfl⟩, (hcell o).trans (unhide HC), .inr ⟨b, _, rfl, unhide HM, ?_⟩, .inl rfl, hg1.os, hg1.tape, hg1.output, hg1.size, fun k hk h1 _ => hold k hk (fun e => h1 (by rw [e])), fun j _ => hcell j, fun j => World.frozen?_of_block (a := ⟨d, j, none⟩) (hold d hd1 hdb)⟩
    rw [← unhide HF, unhide HY]
    exact (unhide HS).put (unhide HW) _ (unhide HN) hYw
set_option maxRecDepth 100000 in
set_option maxHeartbeats 2000000 in
theorem add_none (s : ByteArray) (hs : s.size ≤ maxLen) (x : Int) (d o n : Nat) (f : List UInt8 → Int) (w : World) (hc : w.cell? ⟨d, o, none⟩ = some (.map none)) (hz : w.frozen? ⟨d, o, none⟩ = false) (hf : ∀ y, f y = 0) :
    Calls Tryz.prog 83 #[.pointer (some ⟨d, o, none⟩), .string s, .int .i64 x] w fun e w' => AddOut 2 s x d o none n f w e w' w.heap.size := by
  have K : Keyed Tryz.prog 9 := string_keyed Tryz.underlying9
  have hd1 : d < w.heap.size := World.block_lt_of_cell? w ⟨d, o, none⟩ hc
  have hS : Sm (.map []) f := by
    have e : f = fun _ => 0 := funext hf
    rw [e]; exact Sm.none
  obtain ⟨W, hW⟩ : ∃ W, W = (w.setCell ⟨d, o, none⟩ (.map (some w.heap.size))).alloc (.map #[] 0) := ⟨_, rfl⟩
  have hsz : (w.setCell ⟨d, o, none⟩ (.map (some w.heap.size))).heap.size = w.heap.size := by simp
  have hm : W.ownsMap (H := Unit) Tryz.prog 9 (plainElem Tryz.prog 2) w.heap.size 0 (.map []) := by
    have h := World.ownsMap_made (H := Unit) (w.setCell ⟨d, o, none⟩ (.map (some w.heap.size))) Tryz.prog 9 (plainElem Tryz.prog 2)
    rw [hsz] at h
    rw [hW]
    exact h
  obtain ⟨c, hr1, ha1, _⟩ := hm.lookup_int K Tryz.underlying78 u2 (zero2 _) (keyM hs)
  rw [hS.val] at ha1
  have hF : c = f s.data.toList := by injection ha1 with ha1; injection ha1 with _ ha1; exact ha1.symm
  obtain ⟨Y, hY⟩ : ∃ Y, IntKind.i64.wrap (c + x) = Y := ⟨_, rfl⟩
  have hYw : (Lit.int .i64 Y).wf = true := by rw [← hY]; exact wrap_wf _
  obtain ⟨w1, hr2, hm1, hg1⟩ := hm.update K Tryz.underlying78 (by unfold maxLen; omega) (keyM hs) (plainElem_int u2 hYw)
  obtain ⟨c2, hr3, ha3, _⟩ := hm1.lookup_int K Tryz.underlying78 u2 (zero2 _) (keyM hs)
  rw [atKey_put_same hm.isMap (by trivial)] at ha3
  have hc2 : c2 = Y := by injection ha3 with ha3; injection ha3 with _ ha3; exact ha3.symm
  subst hc2
  have hWs : W.heap.size = w.heap.size + 1 := by rw [hW]; simp
  have hold0 : ∀ k, k < w.heap.size → W.heap[k]? = (w.setCell ⟨d, o, none⟩ (.map (some w.heap.size))).heap[k]? := fun k hk => by rw [hW]; exact Below.heap_alloc _ _ k (by rw [hsz]; exact hk)
  have hold1 : ∀ k, k < w.heap.size → w1.heap[k]? = (w.setCell ⟨d, o, none⟩ (.map (some w.heap.size))).heap[k]? := fun k hk => (hg1.block k (by omega) (fun e => by injection e with e; omega)).trans (hold0 k hk)
  have hcS : (w.setCell ⟨d, o, none⟩ (.map (some w.heap.size))).cell? ⟨d, o, none⟩ = some (.map (some w.heap.size)) := World.cell?_setCell_same _ _ _ hc
  have hcW : W.cell? ⟨d, o, none⟩ = some (.map (some w.heap.size)) := (World.cell?_of_block (a := ⟨d, o, none⟩) (hold0 d hd1)).trans hcS
  have hc1 : w1.cell? ⟨d, o, none⟩ = some (.map (some w.heap.size)) := (World.cell?_of_block (a := ⟨d, o, none⟩) (hold1 d hd1)).trans hcS
  have hms := fun W => map_none52 W
  have hmk := fun W => run_makeMap (P := Tryz.prog) 78 W
  have hcA : (w.alloc (.map #[] 0)).cell? ⟨d, o, none⟩ = some (.map none) := (Below.cell ((Below.refl w.heap.size w).alloc (Nat.le_refl _) _) (p := ⟨d, o, none⟩) hd1).trans hc
  have hzA : (w.alloc (.map #[] 0)).frozen? ⟨d, o, none⟩ = false := (Below.frozen ((Below.refl w.heap.size w).alloc (Nat.le_refl _) _) (p := ⟨d, o, none⟩) hd1).trans hz
  have hbig : ∀ (w2 : World), (∀ k, k < w.heap.size → w2.heap[k]? = (w.setCell ⟨d, o, none⟩ (.map (some w.heap.size))).heap[k]?) → W.grownBy w2 (some w.heap.size) → ∀ D, w2.ownsMap Tryz.prog 9 (plainElem Tryz.prog 2) w.heap.size 1 D → Sm D (upd f s.data.toList (IntKind.i64.wrap (f s.data.toList + x))) → ∀ r, AddOut 2 s x d o none n f w (.returned r) w2 w.heap.size := by
    intro w2 hold hg D hM hSm r
    have hcell : ∀ j, w2.cell? ⟨d, j, none⟩ = (w.setCell ⟨d, o, none⟩ (.map (some w.heap.size))).cell? ⟨d, j, none⟩ := fun j => World.cell?_of_block (a := ⟨d, j, none⟩) (hold d hd1)
    have eo : W.os = w.os := by rw [hW]; rfl
    have et : W.tape = w.tape := by rw [hW]; rfl
    have eu : W.output = w.output := by rw [hW]; rfl
    refine ⟨⟨_, rfl⟩, (hcell o).trans hcS, .inr ⟨_, _, rfl, hM.mono (by omega), hSm⟩, .inr ⟨rfl, Nat.le_refl _⟩, hg.os.trans eo, hg.tape.trans et, hg.output.trans eu, by have := hg.size; omega, fun k hk _ h2 => (hold k hk).trans (Below.heap_setCell _ ⟨d, o, none⟩ _ k (h2 rfl)), fun j hj => (hcell j).trans (World.cell?_setCell_other _ _ _ _ (fun e => hj (by cases e; rfl))), fun j => (World.frozen?_of_block (a := ⟨d, j, none⟩) (hold d hd1)).trans (by rw [World.frozen?_setCell])⟩
  have HB := hide hbig
  by_cases hy : c2 = 0
  · subst hy
    obtain ⟨w2, hr4, hm2, ht2⟩ := hm1.drop K Tryz.underlying78 (keyM hs) 0
    have HM := hide hm2; have HG1 := hide hg1; have HG2 := hide ht2.grown; have HF := hide hF; have HS := hide hS; have HO := hide hold1; have HY := hide hY
    clear ha1 ha3 hm2 hg1 ht2 hF hS hm hm1 hold1 hbig hold0 hcS hf hcW hWs hsz
    subst hW
    go_enter Tryz.func83, Tryz.ntmps83
    go_wp2_with fail
    go_end0
    have hg2 := unhide HG2
    refine unhide HB w2 (fun k hk => (hg2.block k (by have := (unhide HG1).size; simp at this; omega) (fun e => by injection e with e; omega)).trans (unhide HO k hk)) ((unhide HG1).trans hg2) _ (unhide HM) ?_ _
    rw [← unhide HF, unhide HY]
    exact (unhide HS).putDel _ _
  · have HM := hide hm1; have HG1 := hide hg1; have HF := hide hF; have HS := hide hS; have HO := hide hold1; have HY := hide hY; have HN := hide hy; have HW := hide hm.isMap
    have hyb : (c2 == 0) = false := by simpa using hy
    clear ha1 ha3 hg1 hF hS hm hm1 hold1 hbig hold0 hcS hf hcW hWs hsz
    subst hW
    go_enter Tryz.func83, Tryz.ntmps83
    go_wp2_with fail
    go_end0
    refine unhide HB w1 (unhide HO) (unhide HG1) _ (unhide HM) ?_ _
    rw [← unhide HF, unhide HY]
    exact (unhide HS).put (unhide HW) _ (unhide HN) hYw
theorem add_any (s : ByteArray) (hs : s.size ≤ maxLen) (x : Int) (d o n : Nat) (hn : n < maxLen) (mo : Option Nat) (f : List UInt8 → Int) (w : World) (hc : w.cell? ⟨d, o, none⟩ = some (.map mo)) (hz : w.frozen? ⟨d, o, none⟩ = false) (hM : MapAt 2 w mo n f) (hdb : ∀ b, mo = some b → d ≠ b) :
    Calls Tryz.prog 83 #[.pointer (some ⟨d, o, none⟩), .string s, .int .i64 x] w fun e w' => ∃ b', AddOut 2 s x d o mo n f w e w' b' := by
  rcases hM with ⟨rfl, hf⟩ | ⟨b, D, rfl, hm, hS⟩
  · exact (add_none s hs x d o n f w hc hz hf).mono fun e w' h => ⟨_, h⟩
  · exact (add_some s hs x d o b n hn f D w hc hm hS (hdb b rfl)).mono fun e w' h => ⟨_, h⟩
set_option maxRecDepth 100000 in
set_option maxHeartbeats 2000000 in
theorem of_any (s : ByteArray) (hs : s.size ≤ maxLen) (d o n : Nat) (mo : Option Nat) (f : List UInt8 → Int) (w : World) (hc : w.cell? ⟨d, o, none⟩ = some (.map mo)) (hM : MapAt 2 w mo n f) :
    Calls Tryz.prog 97 #[.pointer (some ⟨d, o, none⟩), .string s] w fun e w' => e = .returned (.int .i64 (f s.data.toList)) ∧ w' = w := by
  have K : Keyed Tryz.prog 9 := string_keyed Tryz.underlying9
  rcases hM with ⟨rfl, hf⟩ | ⟨b, D, rfl, hm, hS⟩
  · have hr1 := Maps.look_nil (w := w) false K Tryz.underlying78 (zero2 w) (keyM hs)
    rw [hf]
    clear hf
    go_enter Tryz.func97, Tryz.ntmps97
    go_wp2_with fail
    go_ret
    exact ⟨rfl, rfl⟩
  · obtain ⟨c, hr1, ha1, _⟩ := hm.lookup_int K Tryz.underlying78 u2 (zero2 _) (keyM hs)
    rw [hS.val] at ha1
    have hF : c = f s.data.toList := by injection ha1 with ha1; injection ha1 with _ ha1; exact ha1.symm
    rw [← hF]
    clear hS ha1 hm hF
    go_enter Tryz.func97, Tryz.ntmps97
    go_wp2_with fail
    go_ret
    exact ⟨rfl, rfl⟩
end Go.Proofs.YtpeefmbdhkfhmaaGreatDoor
/- sums: what a view is in memory; New (7), Own (17), Rollup (10), Totals (15), column (28). -/
namespace Go.Proofs.YtpeefmbdhkfhmaaGreatDoor
open Go Go.ChangeShapes Go.WideShapes Go.ChangeAt Go.RowKit Go.Maps
set_option linter.unusedVariables false
/-- a view in memory: its block, its two maps, its two sides -/
structure SumsAt (w : World) (d : Nat) (mo mr : Option Nat) (n : Nat) (f g : List UInt8 → Int) (a c : Int) : Prop where
  c0 : w.cell? ⟨d, 0, none⟩ = some (.map mo)
  c1 : w.cell? ⟨d, 1, none⟩ = some (.map mr)
  c2 : w.cell? ⟨d, 2, none⟩ = some (.int .i64 a)
  c3 : w.cell? ⟨d, 3, none⟩ = some (.int .i64 c)
  fz : ∀ j, w.frozen? ⟨d, j, none⟩ = false
  own : MapAt 2 w mo n f
  rol : MapAt 2 w mr n g
  d0 : ∀ b, mo = some b → d ≠ b
  d1 : ∀ b, mr = some b → d ≠ b
  ab : ∀ b, mo = some b → mr ≠ some b
/-- the view's own blocks -/
def Blk (d : Nat) (mo mr : Option Nat) (k : Nat) : Prop := k = d ∨ mo = some k ∨ mr = some k
theorem SumsAt.lt {w : World} {d : Nat} {mo mr : Option Nat} {n : Nat} {f g : List UInt8 → Int} {a c : Int} (h : SumsAt w d mo mr n f g a c) : ∀ k, Blk d mo mr k → k < w.heap.size := by
  rintro k (rfl | rfl | rfl)
  · exact World.block_lt_of_cell? w _ h.c0
  · exact h.own.lt
  · exact h.rol.lt
theorem SumsAt.block {w w' : World} {d : Nat} {mo mr : Option Nat} {n : Nat} {f g : List UInt8 → Int} {a c : Int} (h : SumsAt w d mo mr n f g a c) (hb : ∀ k, Blk d mo mr k → w'.heap[k]? = w.heap[k]?) : SumsAt w' d mo mr n f g a c :=
  have e : ∀ j, w'.cell? ⟨d, j, none⟩ = w.cell? ⟨d, j, none⟩ := fun j => World.cell?_of_block (a := ⟨d, j, none⟩) (hb d (.inl rfl))
  ⟨(e 0).trans h.c0, (e 1).trans h.c1, (e 2).trans h.c2, (e 3).trans h.c3, fun j => (World.frozen?_of_block (a := ⟨d, j, none⟩) (hb d (.inl rfl))).trans (h.fz j),
    h.own.block (fun b hb' => hb b (.inr (.inl hb'))), h.rol.block (fun b hb' => hb b (.inr (.inr hb'))), h.d0, h.d1, h.ab⟩
theorem SumsAt.below {w w' : World} {d : Nat} {mo mr : Option Nat} {n : Nat} {f g : List UInt8 → Int} {a c : Int} (h : SumsAt w d mo mr n f g a c) (hb : Below w.heap.size w w') : SumsAt w' d mo mr n f g a c :=
  h.block (fun k hk => hb.block k (h.lt k hk))
/-- all but the blocks S is as it was -/
structure Fr (S : Nat → Prop) (w w' : World) : Prop where
  os : w'.os = w.os
  tape : w'.tape = w.tape
  output : w'.output = w.output
  size : w.heap.size ≤ w'.heap.size
  block : ∀ k, k < w.heap.size → ¬ S k → w'.heap[k]? = w.heap[k]?
theorem Fr.refl (S : Nat → Prop) (w : World) : Fr S w w := ⟨rfl, rfl, rfl, Nat.le_refl _, fun _ _ _ => rfl⟩
theorem Fr.below {S : Nat → Prop} {w w' : World} (h : Below w.heap.size w w') : Fr S w w' := ⟨h.os, h.tape, h.output, h.size, fun k hk _ => h.block k hk⟩
theorem Fr.trans {S T : Nat → Prop} {w w' w'' : World} (h : Fr S w w') (k : Fr T w' w'') (hT : ∀ i, T i → S i ∨ w.heap.size ≤ i) : Fr S w w'' :=
  ⟨k.os.trans h.os, k.tape.trans h.tape, k.output.trans h.output, Nat.le_trans h.size k.size, fun i hi hs => (k.block i (Nat.lt_of_lt_of_le hi h.size) (fun ht => (hT i ht).elim hs (fun q => by omega))).trans (h.block i hi hs)⟩
theorem Fr.toBelow {S : Nat → Prop} {w w' : World} (h : Fr S w w') {B : Nat} (hB : B ≤ w.heap.size) (hS : ∀ k, S k → B ≤ k) : Below B w w' :=
  ⟨h.os, h.tape, h.output, h.size, fun k hk => h.block k (by omega) (fun hs => by have := hS k hs; omega)⟩
set_option maxHeartbeats 1000000 in
theorem new_any (w : World) : Calls Tryz.prog 10 #[] w fun e w' => e = .returned (.pointer (some ⟨w.heap.size, 0, none⟩)) ∧ w' = w.alloc (.cells #[.map none, .map none, .int .i64 0, .int .i64 0] 82) := by
  go_enter Tryz.func10, Tryz.ntmps10
  go_wp2_with fail
  go_ret
  exact ⟨rfl, rfl⟩
theorem new_at (w : World) (n : Nat) : SumsAt (w.alloc (.cells #[.map none, .map none, .int .i64 0, .int .i64 0] 82)) w.heap.size none none n (fun _ => 0) (fun _ => 0) 0 0 where
  c0 := by rw [World.cell?_alloc_mark]; rfl
  c1 := by rw [World.cell?_alloc_mark]; rfl
  c2 := by rw [World.cell?_alloc_mark]; rfl
  c3 := by rw [World.cell?_alloc_mark]; rfl
  fz j := by simp
  own := .inl ⟨rfl, fun _ => rfl⟩
  rol := .inl ⟨rfl, fun _ => rfl⟩
  d0 b h := by cases h
  d1 b h := by cases h
  ab b h := by cases h
set_option maxHeartbeats 1000000 in
theorem own_any (s : ByteArray) (hs : s.size ≤ maxLen) (d : Nat) (mo mr : Option Nat) (n : Nat) (f g : List UInt8 → Int) (a c : Int) (w : World) (h : SumsAt w d mo mr n f g a c) :
    Calls Tryz.prog 26 #[.pointer (some ⟨d, 0, none⟩), .string s] w fun e w' => e = .returned (.int .i64 (f s.data.toList)) ∧ w' = w := by
  have dc := hide (of_any s hs d 0 n mo f w h.c0 h.own)
  clear h
  go_enter Tryz.func26, Tryz.ntmps26
  go_wp2_with fail
  refine (unhide dc).mono ?_
  rintro e w1 ⟨rfl, hw⟩
  rw [hw]
  clear hw
  go_wp2_with fail
  go_ret
  exact ⟨rfl, rfl⟩
set_option maxHeartbeats 1000000 in
theorem roll_any (s : ByteArray) (hs : s.size ≤ maxLen) (d : Nat) (mo mr : Option Nat) (n : Nat) (f g : List UInt8 → Int) (a c : Int) (w : World) (h : SumsAt w d mo mr n f g a c) :
    Calls Tryz.prog 28 #[.pointer (some ⟨d, 0, none⟩), .string s] w fun e w' => e = .returned (.int .i64 (g s.data.toList)) ∧ w' = w := by
  have dc := hide (of_any s hs d 1 n mr g w h.c1 h.rol)
  clear h
  go_enter Tryz.func28, Tryz.ntmps28
  go_wp2_with fail
  refine (unhide dc).mono ?_
  rintro e w1 ⟨rfl, hw⟩
  rw [hw]
  clear hw
  go_wp2_with fail
  go_ret
  exact ⟨rfl, rfl⟩
set_option maxHeartbeats 1000000 in
theorem totals_any (d : Nat) (mo mr : Option Nat) (n : Nat) (f g : List UInt8 → Int) (a c : Int) (w : World) (h : SumsAt w d mo mr n f g a c) :
    Calls Tryz.prog 24 #[.pointer (some ⟨d, 0, none⟩)] w fun e w' => e = .returned (.tuple #[.int .i64 a, .int .i64 c]) ∧ ∃ m, w' = w.drewN m := by
  have h2 := h.c2
  have h3 := h.c3
  clear h
  go_enter Tryz.func24, Tryz.ntmps24
  go_wp2_with fail
  go_quiet (fail)
  go_wp2_with fail
  go_ret2
  exact ⟨rfl, _, rfl⟩
/-- an own balance on its side -/
theorem result28 {tmps : Array Value} {w : World} {p : Nat} {s : ByteArray} {x y : Int} (hp : tmps[4]?.getD undef = .pointer (some ⟨p, 0, none⟩)) (h0 : w.cell? ⟨p, 0, none⟩ = some (.string s)) (h1 : w.cell? ⟨p, 1, none⟩ = some (.int .i64 x)) (h2 : w.cell? ⟨p, 2, none⟩ = some (.int .i64 y)) :
    (results Tryz.f100 tmps).run Tryz.prog w = .ok (.agg #[.string s, .int .i64 x, .int .i64 y]) w := by
  simp [results, hp, asAddr, go_sem, h0, h1, h2]
set_option maxRecDepth 100000 in
set_option maxHeartbeats 1000000 in
theorem column_any (s : ByteArray) (v : Int) (hv : -9223372036854775807 ≤ v) (hv' : v ≤ 9223372036854775807) (w : World) :
    Calls Tryz.prog 100 #[.string s, .int .i64 v] w fun e w' => e = .returned (.agg #[.string s, .int .i64 (pos v), .int .i64 (neg v)]) ∧ Below w.heap.size w w' := by
  by_cases h : v > 0
  · have hp : pos v = v := if_pos h
    have hn : neg v = 0 := if_pos h
    have hd : decide (v > 0) = true := by simpa using h
    have hd2 : decide (0 < v) = true := by simpa using h
    rw [hp, hn]
    clear hp hn hv hv'
    go_enter Tryz.func100, Tryz.ntmps100
    go_wp2_with fail
    refine ⟨rfl, _, result28 (p := w.heap.size) (s := s) (x := v) (y := 0) rfl (by rw [World.cell?_alloc_mark]; rfl) (by rw [World.cell?_alloc_mark]; rfl) (by rw [World.cell?_alloc_mark]; rfl), rfl, (Below.refl _ _).alloc (Nat.le_refl _) _⟩
  · have hp : pos v = 0 := if_neg h
    have hn : neg v = -v := if_neg h
    have hd : decide (v > 0) = false := by simpa using h
    have hd2 : decide (0 < v) = false := by simpa using h
    rw [hp, hn]
    have hw : IntKind.i64.wrap (-v) = -v := by
      rw [IntKind.wrap_i64]; omega
    clear hp hn
    go_enter Tryz.func100, Tryz.ntmps100
    go_wp2_with fail
    refine ⟨rfl, _, result28 (p := w.heap.size) (s := s) (x := 0) (y := -v) rfl (by rw [World.cell?_alloc_mark]; rfl) (by rw [World.cell?_alloc_mark]; rfl) (by rw [World.cell?_alloc_mark]; rfl), rfl, (Below.refl _ _).alloc (Nat.le_refl _) _⟩
end Go.Proofs.YtpeefmbdhkfhmaaGreatDoor
