/- aged: the heap in memory: push (55). -/
import Derived.Test.YtildpgfhahmgmaaDoorVwA
import Derived.Test.YtildpgfhahmgmaaDoorHpA
import Derived.Test.YtildpgfhahmgmaaDoorRgs
namespace Go.Proofs.YtildpgfhahmgmaaDoor
open Go Go.Shelf Go.ChangeShapes Go.WideShapes Go.ChangeAt Go.RowKit Go.Maps
set_option linter.unusedVariables false
/-- what is left alone: all blocks but those of X -/
structure Fr (w w' : World) (X : Nat → Prop) : Prop where
  os : w'.os = w.os
  tape : w'.tape = w.tape
  output : w'.output = w.output
  size : w.heap.size ≤ w'.heap.size
  block : ∀ k, k < w.heap.size → ¬ X k → w'.heap[k]? = w.heap[k]?
theorem Fr.refl (w : World) (X : Nat → Prop) : Fr w w X := ⟨rfl, rfl, rfl, Nat.le_refl _, fun _ _ _ => rfl⟩
theorem Fr.trans {a b c : World} {X Y : Nat → Prop} (h : Fr a b X) (k : Fr b c Y) (hY : ∀ i, i < a.heap.size → Y i → X i) : Fr a c X :=
  ⟨k.os.trans h.os, k.tape.trans h.tape, k.output.trans h.output, Nat.le_trans h.size k.size, fun i hi hx => (k.block i (Nat.lt_of_lt_of_le hi h.size) (fun hy => hx (hY i hi hy))).trans (h.block i hi hx)⟩
theorem Fr.mono {a b : World} {X Y : Nat → Prop} (h : Fr a b X) (hY : ∀ i, i < a.heap.size → X i → Y i) : Fr a b Y := ⟨h.os, h.tape, h.output, h.size, fun i hi hy => h.block i hi (fun hx => hy (hY i hi hx))⟩
theorem Fr.of_below {a b : World} (h : Below a.heap.size a b) (X : Nat → Prop) : Fr a b X := ⟨h.os, h.tape, h.output, h.size, fun k hk _ => h.block k hk⟩
theorem Fr.below {a b : World} {X : Nat → Prop} (h : Fr a b X) {B : Nat} (hB : B ≤ a.heap.size) (hX : ∀ k, k < B → ¬ X k) : Below B a b := ⟨h.os, h.tape, h.output, h.size, fun k hk => h.block k (Nat.lt_of_lt_of_le hk hB) (hX k hk)⟩
theorem Fr.drewN {a b : World} {X : Nat → Prop} (h : Fr a b X) (n : Nat) : Fr a (b.drewN n) X := ⟨h.os, h.tape, h.output, h.size, h.block⟩
theorem Fr.drew {a b : World} {X : Nat → Prop} (h : Fr a b X) : Fr a b.drew X := ⟨h.os, h.tape, h.output, h.size, h.block⟩
theorem Fr.alloc {a b : World} {X : Nat → Prop} (h : Fr a b X) (o : Obj) : Fr a (b.alloc o) X :=
  ⟨h.os, h.tape, h.output, Nat.le_trans h.size (by simp), fun k hk hx => (Below.heap_alloc _ _ _ (Nat.lt_of_lt_of_le hk h.size)).trans (h.block k hk hx)⟩
theorem Fr.setCell {a b : World} {X : Nat → Prop} (h : Fr a b X) {p : Addr} (hp : X p.block ∨ a.heap.size ≤ p.block) (u : Value) : Fr a (b.setCell p u) X :=
  ⟨h.os, h.tape, h.output, Nat.le_trans h.size (by simp [World.setCell]), fun k hk hx => (Below.heap_setCell _ _ _ _ (fun e => by
    subst e
    rcases hp with hp | hp
    · exact hx hp
    · omega)).trans (h.block k hk hx)⟩
/-- two places change about -/
def swL (H : List (Int × Nat)) (a b : Nat) : List (Int × Nat) := (H.set a (H.getD b (0, 0))).set b (H.getD a (0, 0))
def dy (H : List (Int × Nat)) (k : Nat) : Int := (H.getD k (0, 0)).1
theorem swL_len (H : List (Int × Nat)) (a b : Nat) : (swL H a b).length = H.length := by simp [swL]
theorem swL_get {H : List (Int × Nat)} {a b : Nat} (ha : a < H.length) (hb : b < H.length) (k : Nat) : (swL H a b)[k]? = if k = a then H[b]? else if k = b then H[a]? else H[k]? := by
  unfold swL
  rw [List.getElem?_set, List.getElem?_set]
  simp only [List.length_set]
  by_cases h1 : b = k
  · subst h1
    rw [if_pos rfl, if_pos hb]
    by_cases h2 : b = a
    · rw [if_pos h2, ← h2]; simp [hb]
    · rw [if_neg h2, if_pos rfl]; simp [ha]
  · rw [if_neg h1]
    by_cases h2 : a = k
    · subst h2
      rw [if_pos rfl, if_pos ha, if_pos rfl]; simp [hb]
    · rw [if_neg h2, if_neg (fun e => h2 e.symm), if_neg (fun e => h1 e.symm)]
theorem swL_dy {H : List (Int × Nat)} {a b : Nat} (ha : a < H.length) (hb : b < H.length) : dy (swL H a b) = sw (dy H) a b := by
  funext k
  unfold dy sw
  rw [List.getD_eq_getElem?_getD, swL_get ha hb]
  split
  · simp [List.getD_eq_getElem?_getD]
  · split <;> simp [List.getD_eq_getElem?_getD]
theorem swL_mem {H : List (Int × Nat)} {a b : Nat} (ha : a < H.length) (hb : b < H.length) (x : Int × Nat) : x ∈ swL H a b ↔ x ∈ H := by
  rw [List.mem_iff_getElem?, List.mem_iff_getElem?]
  constructor
  · rintro ⟨k, hk⟩
    rw [swL_get ha hb] at hk
    split at hk
    · exact ⟨b, hk⟩
    · split at hk
      · exact ⟨a, hk⟩
      · exact ⟨k, hk⟩
  · rintro ⟨k, hk⟩
    by_cases h1 : k = a
    · refine ⟨b, ?_⟩
      rw [swL_get ha hb]
      by_cases h2 : b = a
      · rw [if_pos h2, h2, ← h1]; exact hk
      · rw [if_neg h2, if_pos rfl, ← h1]; exact hk
    · by_cases h2 : k = b
      · exact ⟨a, by rw [swL_get ha hb, if_pos rfl, ← h2]; exact hk⟩
      · exact ⟨k, by rw [swL_get ha hb, if_neg h1, if_neg h2]; exact hk⟩
theorem flatT_set : ∀ (H : List (Int × Nat)) (i : Nat) (x : Int × Nat), kT.flat (H.set i x) = ((kT.flat H).set (i * 2) (.int .i64 x.1)).set (i * 2 + 1) (ptr x.2)
  | [], i, x => by simp [Kd.flat]
  | h :: H, 0, x => by simp [Kd.flat, kT]
  | h :: H, i + 1, x => by
    have e : ∀ (y : Int × Nat) (L : List (Int × Nat)), kT.flat (y :: L) = .int .i64 y.1 :: ptr y.2 :: kT.flat L := fun y L => by simp [Kd.flat, kT]
    rw [List.set_cons_succ, e, e, flatT_set H i x, show (i + 1) * 2 = i * 2 + 1 + 1 by omega]
    rfl
theorem row_set {w : World} {g n cap size : Nat} {e : TypeId} {xs : List Value} (h : w.ownsRow 0 e size (.slice (some ⟨g, 0, none⟩) n cap) n xs) (j : Nat) (u : Value) : (w.setCell ⟨g, j, none⟩ u).ownsRow 0 e size (.slice (some ⟨g, 0, none⟩) n cap) n (xs.set j u) := by
  refine ⟨by rw [List.length_set]; exact h.1, ?_⟩
  rcases h.2 with ⟨h1, _⟩ | ⟨g', cap', cur, h1, _, h2, h3, h4, h5, h6⟩
  · cases h1
  · injection h1 with h1 _ h1c
    injection h1 with h1
    injection h1 with h1
    subst h1 h1c
    refine .inr ⟨g, cap, _, rfl, Nat.zero_le _, Go.heap_setCell_same w g j cur e u h2, h3, h4, ?_, ?_⟩
    · simpa using h5
    · rw [← h6]
      simp [List.take_set]
/-- the turns: a row in a block -/
def TR (W : World) (g n c : Nat) (H : List (Int × Nat)) : Prop := W.ownsRow 0 86 2 (.slice (some ⟨g, 0, none⟩) n c) n (kT.flat H) ∧ H.length = n
def setT (W : World) (g i : Nat) (x : Int × Nat) : World := W.setCells g (i * 2) [.int .i64 x.1, ptr x.2]
theorem TR.set {W : World} {g n c : Nat} {H : List (Int × Nat)} (h : TR W g n c H) (i : Nat) (x : Int × Nat) : TR (setT W g i x) g n c (H.set i x) := by
  refine ⟨?_, by rw [List.length_set]; exact h.2⟩
  have h2 := row_set (row_set h.1 (i * 2) (.int .i64 x.1)) (i * 2 + 1) (ptr x.2)
  rw [← flatT_set] at h2
  exact h2
theorem setT_fr {a b : World} {X : Nat → Prop} (h : Fr a b X) {g : Nat} (hg : X g ∨ a.heap.size ≤ g) (i : Nat) (x : Int × Nat) : Fr a (setT b g i x) X := (h.setCell (p := ⟨g, i * 2, none⟩) hg _).setCell (p := ⟨g, i * 2 + 1, none⟩) hg _
theorem TR.range {W : World} {g n c : Nat} {H : List (Int × Nat)} (h : TR W g n c H) {k : Nat} (hk : k < n) : W.rangeAt g (k * 2) [.int .i64 (H.getD k (0, 0)).1, ptr (H.getD k (0, 0)).2] := by
  have hk' : k < H.length := by rw [h.2]; exact hk
  obtain ⟨b, off, e, _, hr⟩ := (own_lies kT_ok h.2 h.1).2 k hk'
  cases e
  rw [Nat.zero_add] at hr
  have e2 : H.getD k (0, 0) = H[k] := by simp [hk']
  rw [e2]
  exact hr
theorem TR.day {W : World} {g n c : Nat} {H : List (Int × Nat)} (h : TR W g n c H) {k : Nat} (hk : k < n) : W.cell? ⟨g, k * 2, none⟩ = some (.int .i64 (dy H k)) := h.range hk 0 _ rfl
theorem TR.lt {W : World} {g n c : Nat} {H : List (Int × Nat)} (h : TR W g n c H) : g < W.heap.size ∧ n ≤ c ∧ tyAt W g = some 86 ∧ ∃ cur, W.heap[g]? = some (.cells cur 86 (0, 0)) := by
  refine ⟨(row_block h.1 rfl).2.1, ?_, row_ty h.1 rfl, ?_⟩
  all_goals
    rcases h.1.2 with ⟨h1, _⟩ | ⟨g', cap', cur, h1, _, h2, h3, h4, h5, h6⟩
    · cases h1
    · injection h1 with h1 _ h1c
      injection h1 with h1
      injection h1 with h1
      subst h1 h1c
      first | exact h3 | exact ⟨_, h2⟩
theorem TR.there {W : World} {g n c : Nat} {H : List (Int × Nat)} (h : TR W g n c H) {k : Nat} (hk : k < n) : W.there g (k * 2) 2 := by
  obtain ⟨_, _, _, cur, hc⟩ := h.lt
  intro j hj
  refine ⟨?_, froz_any hc⟩
  have : j = 0 ∨ j = 1 := by omega
  rcases this with rfl | rfl
  · rw [h.range hk 0 _ rfl]; rfl
  · rw [h.range hk 1 _ rfl]; rfl
where froz_any {W : World} {b i : Nat} {xs : Array Value} {t : TypeId} (h : W.heap[b]? = some (.cells xs t (0, 0))) : W.frozen? ⟨b, i, none⟩ = false := by simp [World.frozen?, h]
def ld86 (x : Value) : Sem Value := Instr.loadAt 86 x
theorem ld86_is (x : Value) : Instr.loadAt 86 x = ld86 x := rfl
def st86 (x y : Value) : Sem Unit := Instr.storeAt 86 x y
theorem st86_is (x y : Value) : Instr.storeAt 86 x y = st86 x y := rfl
theorem size86 : (Tryd.prog.info? 86).map (·.size) = some 2 := by kernel_rfl
theorem run_ld86 {w : World} {b o : Nat} {t : Int} {p : Nat} (h : w.rangeAt b o [.int .i64 t, ptr p]) : (ld86 (.pointer (some ⟨b, o, none⟩))).run Tryd.prog w = .ok (.agg #[.int .i64 t, ptr p]) w :=
  run_loadAt_mid (P := Tryd.prog) w b o 86 [.int .i64 t, ptr p] _ h Tryd.underlying86 rfl size86
theorem run_st86 {w : World} {b i : Nat} (h : w.there b (i * 2) 2) (t : Int) (p : Nat) : (st86 (.pointer (some ⟨b, i * 2, none⟩)) (.agg #[.int .i64 t, ptr p])).run Tryd.prog w = .ok () (setT w b i (t, p)) :=
  run_storeAt_mid (P := Tryd.prog) w b (i * 2) 86 #[.int .i64 t, ptr p] h size86 (by simp [Value.oneCell', ptr])
theorem TR.drewN {W : World} {g n c : Nat} {H : List (Int × Nat)} (h : TR W g n c H) (m : Nat) : TR (W.drewN m) g n c H := ⟨row_keep h.1 (fun _ _ => rfl), h.2⟩
end Go.Proofs.YtildpgfhahmgmaaDoor
