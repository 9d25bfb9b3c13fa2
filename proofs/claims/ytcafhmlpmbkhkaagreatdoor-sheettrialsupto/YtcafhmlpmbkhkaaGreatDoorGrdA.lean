/- The grid: its rows in memory; newGrid 44, add 45. -/
import Derived.Test.YtcafhmlpmbkhkaaGreatDoorRgs
import Derived.Test.YtcafhmlpmbkhkaaGreatDoorGrdN
namespace Go.Proofs.YtcafhmlpmbkhkaaGreatDoor
open Go Go.Shelf Go.ChangeShapes Go.WideShapes Go.ChangeAt Go.RowKit Go.Maps
set_option linter.unusedVariables false
set_option linter.unusedSimpArgs false
/-- a text in memory -/
def txB (x : Tx) : ByteArray := ⟨x.toArray⟩
theorem txB_len (x : Tx) : (txB x).size = x.length := by show x.toArray.size = _; simp
/-- texts -/
def kT : Kd Tx := ⟨fun x => [.string (txB x)], 1, 93, 9, 16⟩
theorem kT_ok : KdOK kT := kd_ok (fun _ => rfl) (by decide) (fun x u hu => by simp [kT] at hu; subst hu; rfl) Tryz.underlying93 (z := .string ⟨#[]⟩) (by kernel_rfl) rfl (by decide)
/-- lists of texts, where they lie -/
structure Sl where
  p : Option Addr
  n : Nat
  c : Nat
def kS : Kd Sl := ⟨fun s => [.slice s.p s.n s.c], 1, 94, 93, 24⟩
theorem kS_ok : KdOK kS := kd_ok (fun _ => rfl) (by decide) (fun x u hu => by simp [kS] at hu; subst hu; rfl) Tryz.underlying94 (z := .slice none 0 0) (by kernel_rfl) rfl (by decide)
/-- sides -/
def kG : Kd Int := ⟨fun x => [.int .i64 x], 1, 110, 86, 8⟩
theorem kG_ok : KdOK kG := kd_ok (fun _ => rfl) (by decide) (fun x u hu => by simp [kG] at hu; subst hu; rfl) Tryz.underlying110 (z := .int .i64 0) (by kernel_rfl) rfl (by decide)
/-- a list that shows a row's texts, in a block of texts -/
structure RowIs (W : World) (s : Sl) (r : List Tx) : Prop where
  n : s.n = r.length
  c : s.p = none → s.c = 0
  lies : Lies kT W s.p r
  blk : ∀ a, s.p = some a → ∃ (ys : Array Value) (f : Nat × Nat), W.heap[a.block]? = some (Obj.cells ys 9 f)
/-- what a call on a grid leaves as it was: all that stands below B, and whatever is neither a grid nor a row of lists -/
structure Gd (B : Nat) (W W' : World) : Prop where
  bel : Below B W W'
  kept : ∀ (k : Nat) (ys : Array Value) (t : TypeId) (f : Nat × Nat), W.heap[k]? = some (Obj.cells ys t f) → t ≠ 192 → t ≠ 93 → W'.heap[k]? = W.heap[k]?
theorem Gd.refl (B : Nat) (W : World) : Gd B W W := ⟨Below.refl _ _, fun _ _ _ _ _ _ _ => rfl⟩
theorem Gd.trans {B : Nat} {W X Y : World} (h : Gd B W X) (k : Gd B X Y) : Gd B W Y :=
  ⟨h.bel.trans k.bel, fun q ys t f hq h1 h2 => by
    have e := h.kept q ys t f hq h1 h2
    exact (k.kept q ys t f (e.trans hq) h1 h2).trans e⟩
theorem Gd.of_below {B : Nat} {W W' : World} (h : Below W.heap.size W W') (hB : B ≤ W.heap.size) : Gd B W W' :=
  ⟨h.mono hB, fun k ys t f hk _ _ => h.block k (Array.getElem?_eq_some_iff.1 hk).1⟩
theorem Gd.mono {B C : Nat} {W W' : World} (h : Gd B W W') (hC : C ≤ B) : Gd C W W' := ⟨h.bel.mono hC, h.kept⟩
theorem RowIs.gd {B : Nat} {W W' : World} {s : Sl} {r : List Tx} (h : RowIs W s r) (g : Gd B W W') : RowIs W' s r := by
  refine ⟨h.n, h.c, ?_, fun a ha => ?_⟩
  · cases hp : s.p with
    | none => have := h.lies; rw [hp] at this; rw [this.1 rfl]; exact Lies.nil _ _
    | some a =>
      refine ⟨(fun e => by cases e), fun k hk => ?_⟩
      have hl := h.lies
      rw [hp] at hl
      obtain ⟨b, off, e, hlt, hr⟩ := hl.2 k hk
      obtain ⟨ys, f, hb⟩ := h.blk a hp
      cases e
      exact ⟨b, off, rfl, Nat.lt_of_lt_of_le hlt g.bel.size, fun j u hu => (World.cell?_of_block (a := ⟨b, off + k * kT.s + j, none⟩) (g.kept b ys 9 f hb (by decide) (by decide))).trans (hr j u hu)⟩
  · obtain ⟨ys, f, hb⟩ := h.blk a ha
    exact ⟨ys, f, (g.kept _ ys 9 f hb (by decide) (by decide)).trans hb⟩
/-- a grid: its sides, its rows; all its blocks are from B on -/
structure GrA (B : Nat) (W : World) (d : Nat) (ps : Option Addr) (cs : Nat) (S : List Int) (pr : Option Addr) (cr : Nat) (L : List Sl) (R : List (List Tx)) : Prop where
  low : B ≤ d
  cell : W.heap[d]? = some (.cells #[.slice ps S.length cs, .slice pr R.length cr] 192 (0, 0))
  side : Lies kG W ps S
  sblk : ∀ a, ps = some a → ∃ (ys : Array Value) (f : Nat × Nat), W.heap[a.block]? = some (Obj.cells ys 86 f)
  own : W.ownsRow B 93 1 (.slice pr R.length cr) R.length (kS.flat L)
  len : L.length = R.length
  row : ∀ (k : Nat) s r, L[k]? = some s → R[k]? = some r → RowIs W s r
/-- a grid with these sides and rows -/
def Gr (B : Nat) (W : World) (d : Nat) (S : List Int) (R : List (List Tx)) : Prop := ∃ ps cs pr cr L, GrA B W d ps cs S pr cr L R
theorem not_own {W : World} {B e s n k t : Nat} {v : Value} {xs : List Value} {ys : Array Value} {f : Nat × Nat} (h : W.ownsRow B e s v n xs) (hk : W.heap[k]? = some (Obj.cells ys t f)) (ht : t ≠ e) : v.ownBlock ≠ some k := fun hv => by
  rcases h.2 with ⟨e1, h2⟩ | ⟨g, cap, cur, e1, hB, hh, h3⟩
  · rw [e1] at hv; cases hv
  · rw [e1] at hv
    have e2 : g = k := Option.some.inj hv
    subst e2
    rw [hk] at hh
    injection hh with hh
    injection hh with _ h5 _
    exact ht h5
theorem GrA.gd {B : Nat} {W W' : World} {d : Nat} {ps : Option Addr} {cs : Nat} {S : List Int} {pr : Option Addr} {cr : Nat} {L : List Sl} {R : List (List Tx)} (h : GrA B W d ps cs S pr cr L R) (hb : Below W.heap.size W W') : GrA B W' d ps cs S pr cr L R :=
  ⟨h.low, (hb.block d (Array.getElem?_eq_some_iff.1 h.cell).1).trans h.cell, h.side.below hb, fun a ha => by
    obtain ⟨ys, f, hy⟩ := h.sblk a ha
    exact ⟨ys, f, (hb.block _ (Array.getElem?_eq_some_iff.1 hy).1).trans hy⟩, own_below h.own hb, h.len, fun k s r hs hr => (h.row k s r hs hr).gd (Gd.of_below (B := 0) hb (Nat.zero_le _))⟩
theorem Gr.below {B : Nat} {W W' : World} {d : Nat} {S : List Int} {R : List (List Tx)} (h : Gr B W d S R) (hb : Below W.heap.size W W') : Gr B W' d S R := by
  obtain ⟨ps, cs, pr, cr, L, h⟩ := h
  exact ⟨ps, cs, pr, cr, L, h.gd hb⟩
theorem heap_set1 {w : World} {b : Nat} {x0 x1 v : Value} {t : TypeId} (h : w.heap[b]? = some (.cells #[x0, x1] t (0, 0))) : (w.setCell ⟨b, 1, none⟩ v).heap[b]? = some (.cells #[x0, v] t (0, 0)) := by
  simp [World.setCell, Array.getElem?_modify, h]
theorem heap_new (w : World) (o : Obj) : (w.alloc o).heap[w.heap.size]? = some o := by
  show (w.heap.push o)[w.heap.size]? = _
  simp
theorem cell_at {W : World} {b i : Nat} {xs : Array Value} {t : TypeId} {f : Nat × Nat} (h : W.heap[b]? = some (.cells xs t f)) : W.cell? ⟨b, i, none⟩ = xs[i]? := by simp [World.cell?, h]
theorem froz_at {W : World} {b i : Nat} {xs : Array Value} {t : TypeId} (h : W.heap[b]? = some (.cells xs t (0, 0))) : W.frozen? ⟨b, i, none⟩ = false := by simp [World.frozen?, h]
/-- what add leaves -/
def AddOut (B : Nat) (W : World) (d : Nat) (S : List Int) (R : List (List Tx)) (r : List Tx) (e : Ending) (w' : World) : Prop := (∃ v, e = .returned v) ∧ Gr B w' d S (R ++ [r]) ∧ Gd B W w'
set_option maxRecDepth 100000 in
set_option maxHeartbeats 4000000 in
theorem add_any {B : Nat} {W : World} {d : Nat} {S : List Int} {R : List (List Tx)} (h0 : Gr B W d S R) {p : Option Addr} {n c : Nat} {r : List Tx} (hr : RowIs W ⟨p, n, c⟩ r) (hn : R.length + 1 ≤ 1099511627776) :
    Calls Tryz.prog 45 #[.pointer (some ⟨d, 0, none⟩), .slice p n c] W (AddOut B W d S R r) := by
  obtain ⟨ps, cs, pr, cr, L, h⟩ := h0
  have hdlt : d < W.heap.size := (Array.getElem?_eq_some_iff.1 h.cell).1
  obtain ⟨O, hO⟩ : ∃ O, O = Obj.cells #[.slice p n c] 93 := ⟨_, rfl⟩
  have b0 : Below W.heap.size W (W.alloc O) := bal (Below.refl _ _) _
  have hBW : B ≤ W.heap.size := Nat.le_trans h.low (Nat.le_of_lt hdlt)
  obtain ⟨p', c', w1, r1, o1, b1, k1, q1⟩ := run_app kS_ok (L := L) (M := [(⟨p, n, c⟩ : Sl)]) 94 (h.own.alloc O) (Nat.le_trans hBW b0.size) (some ⟨W.heap.size, 0, none⟩) 1 (fun h => by cases h) (by rw [hO]; exact one_lies W (⟨p, n, c⟩ : Sl) 93 _ rfl) hn
  simp only [List.length_singleton] at r1 o1 q1
  have hnd : (Value.slice pr R.length cr).ownBlock ≠ some d := not_own h.own h.cell (by decide)
  have kd : w1.heap[d]? = some (.cells #[.slice ps S.length cs, .slice pr R.length cr] 192 (0, 0)) := (k1 d (Nat.lt_of_lt_of_le hdlt b0.size) hnd).trans ((b0.block d hdlt).trans h.cell)
  have c0 : W.cell? ⟨d, 1, none⟩ = some (.slice pr R.length cr) := by rw [cell_at h.cell]; rfl
  have ca : (W.alloc O).cell? ⟨d, 1, none⟩ = some (.slice pr R.length cr) := by rw [cell_at ((b0.block d hdlt).trans h.cell)]; rfl
  have c1 : w1.cell? ⟨d, 1, none⟩ = some (.slice pr R.length cr) := by rw [cell_at kd]; rfl
  have f1 : w1.frozen? ⟨d, 1, none⟩ = false := froz_at kd
  have gdd : Gd B W (w1.setCell ⟨d, 1, none⟩ (.slice p' (R.length + 1) c')) := by
    refine ⟨((b0.mono hBW).trans b1).trans ((Below.refl B w1).setCell (p := ⟨d, 1, none⟩) h.low _), fun k ys t f hk h1 h2 => ?_⟩
    have hkl := (Array.getElem?_eq_some_iff.1 hk).1
    refine (Below.heap_setCell _ _ _ _ (fun e => ?_)).trans ((k1 k (Nat.lt_of_lt_of_le hkl b0.size) (not_own h.own hk h2)).trans (b0.block k hkl))
    subst e
    rw [h.cell] at hk
    injection hk with hk
    injection hk with _ h5 _
    exact h1 h5.symm
  have HF : Hid (Gr B (w1.setCell ⟨d, 1, none⟩ (.slice p' (R.length + 1) c')) d S (R ++ [r]) ∧ Gd B W (w1.setCell ⟨d, 1, none⟩ (.slice p' (R.length + 1) c'))) := by
    refine ⟨⟨ps, cs, p', c', L ++ [(⟨p, n, c⟩ : Sl)], h.low, ?_, ?_, fun a ha => ?_, ?_, by simp [h.len], fun k s r' hs hr' => ?_⟩, gdd⟩
    · rw [List.length_append, List.length_singleton]
      exact heap_set1 kd
    · cases hp : ps with
      | none => have := h.side; rw [hp] at this; rw [this.1 rfl]; exact Lies.nil _ _
      | some a =>
        have hs := h.side
        rw [hp] at hs
        refine ⟨(fun e => by cases e), fun k hk => ?_⟩
        obtain ⟨b, off, e, hlt, hrr⟩ := hs.2 k hk
        obtain ⟨ys, f, hy⟩ := h.sblk a hp
        cases e
        exact ⟨b, off, rfl, Nat.lt_of_lt_of_le hlt gdd.bel.size, fun j u hu => (World.cell?_of_block (a := ⟨b, off + k * kG.s + j, none⟩) (gdd.kept b ys 86 f hy (by decide) (by decide))).trans (hrr j u hu)⟩
    · obtain ⟨ys, f, hy⟩ := h.sblk a ha
      exact ⟨ys, f, (gdd.kept _ ys 86 f hy (by decide) (by decide)).trans hy⟩
    · rw [List.length_append, List.length_singleton]
      refine row_keep o1 fun g hg => Below.heap_setCell _ _ _ _ (fun e => ?_)
      subst e
      exact not_own o1 kd (by decide) hg
    · by_cases hk : k < R.length
      · rw [List.getElem?_append_left (by rw [h.len]; exact hk)] at hs
        rw [List.getElem?_append_left hk] at hr'
        exact (h.row k s r' hs hr').gd gdd
      · have hk2 : k = R.length := by
          have := (List.getElem?_eq_some_iff.1 hr').1
          rw [List.length_append, List.length_singleton] at this
          omega
        subst hk2
        rw [List.getElem?_append_right (Nat.le_refl _), Nat.sub_self] at hr'
        rw [List.getElem?_append_right (by rw [h.len]; exact Nat.le_refl _), h.len, Nat.sub_self] at hs
        cases hs
        cases hr'
        exact hr.gd gdd
  have HR := hide r1
  clear r1 o1 b1 k1 q1 hnd kd gdd h hr hn b0 hBW hdlt
  subst hO
  go_enter Tryz.func45, Tryz.ntmps45
  go_wp2_with (at_builtin; refine wpList_append_run rfl _ _ 94 rfl _ _ _ _ rfl rfl (unhide HR) ?_)
  go_end0
  exact ⟨⟨_, rfl⟩, unhide HF⟩
/-- what newGrid hands back -/
def NewOut (W : World) (S : List Int) (e : Ending) (w' : World) : Prop := ∃ d, e = .returned (.pointer (some ⟨d, 0, none⟩)) ∧ Gr W.heap.size w' d S [] ∧ Below W.heap.size W w'
set_option maxRecDepth 100000 in
set_option maxHeartbeats 4000000 in
theorem newGrid_any {W : World} {ps : Option Addr} {cs : Nat} {S : List Int} (hS : Lies kG W ps S) (hb : ∀ a, ps = some a → ∃ (ys : Array Value) (f : Nat × Nat), W.heap[a.block]? = some (Obj.cells ys 86 f)) :
    Calls Tryz.prog 44 #[.slice ps S.length cs] W (NewOut W S) := by
  have b0 : Below W.heap.size W (W.alloc (.cells #[.slice ps S.length cs, .slice none 0 0] 192)) := bal (Below.refl _ _) _
  have HF : Hid (Gr W.heap.size (W.alloc (.cells #[.slice ps S.length cs, .slice none 0 0] 192)) W.heap.size S []) :=
    ⟨ps, cs, none, 0, [], Nat.le_refl _, heap_new _ _, hS.below b0, fun a ha => by
      obtain ⟨ys, f, hy⟩ := hb a ha
      exact ⟨ys, f, (b0.block _ (Array.getElem?_eq_some_iff.1 hy).1).trans hy⟩, World.ownsRow_nil _ _ _ _, rfl, fun k s r hs => by simp at hs⟩
  have HB := hide b0
  clear hS hb b0
  go_enter Tryz.func44, Tryz.ntmps44
  go_wp2_with fail
  go_ret
  exact ⟨_, rfl, unhide HF, unhide HB⟩
end Go.Proofs.YtcafhmlpmbkhkaaGreatDoor
