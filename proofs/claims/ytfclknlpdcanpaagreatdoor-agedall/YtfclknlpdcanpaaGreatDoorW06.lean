import Derived.Test.YtfclknlpdcanpaaGreatDoorW01
import Derived.Test.YtfclknlpdcanpaaGreatDoorW05
import Derived.Test.YtfclknlpdcanpaaGreatDoorW02
/- aged: the heap in memory: push (55). -/
namespace Go.Proofs.YtfclknlpdcanpaaGreatDoor
open Go Go.Shelf Go.ChangeShapes Go.WideShapes Go.ChangeAt Go.RowKit Go.Maps
set_option linter.unusedVariables false
/-- what is left alone: all blocks but those of X -/
structure Fr (w w' : World) (X : Nat → Prop) : Prop where
  os : w'.os = w.os
  tape : w'.tape = w.tape
  output : w'.output = w.output
  size : w.heap.size ≤ w'.heap.size
  block : ∀ k, k < w.heap.size → ¬ X k → w'.heap[k]? = w.heap[k]?
theorem Fr.refl (w : World) (X : Nat → Prop) : Fr w w X := ⟨rfl, rfl, rfl, Nat.le_refl _, fun _ _ _ => rfl⟩
theorem Fr.trans {a b c : World} {X Y : Nat → Prop} (h : Fr a b X) (k : Fr b c Y) (hY : ∀ i, i < a.heap.size → Y i → X i) : Fr a c X :=
  ⟨k.os.trans h.os, k.tape.trans h.tape, k.output.trans h.output, Nat.le_trans h.size k.size, fun i hi hx => (k.block i (Nat.lt_of_lt_of_le hi h.size) (fun hy => hx (hY i hi hy))).trans (h.block i hi hx)⟩
theorem Fr.mono {a b : World} {X Y : Nat → Prop} (h : Fr a b X) (hY : ∀ i, i < a.heap.size → X i → Y i) : Fr a b Y := ⟨h.os, h.tape, h.output, h.size, fun i hi hy => h.block i hi (fun hx => hy (hY i hi hx))⟩
theorem Fr.of_below {a b : World} (h : Below a.heap.size a b) (X : Nat → Prop) : Fr a b X := ⟨h.os, h.tape, h.output, h.size, fun k hk _ => h.block k hk⟩
theorem Fr.below {a b : World} {X : Nat → Prop} (h : Fr a b X) {B : Nat} (hB : B ≤ a.heap.size) (hX : ∀ k, k < B → ¬ X k) : Below B a b := ⟨h.os, h.tape, h.output, h.size, fun k hk => h.block k (Nat.lt_of_lt_of_le hk hB) (hX k hk)⟩
theorem Fr.drewN {a b : World} {X : Nat → Prop} (h : Fr a b X) (n : Nat) : Fr a (b.drewN n) X := ⟨h.os, h.tape, h.output, h.size, h.block⟩
theorem Fr.drew {a b : World} {X : Nat → Prop} (h : Fr a b X) : Fr a b.drew X := ⟨h.os, h.tape, h.output, h.size, h.block⟩
theorem Fr.alloc {a b : World} {X : Nat → Prop} (h : Fr a b X) (o : Obj) : Fr a (b.alloc o) X :=
  ⟨h.os, h.tape, h.output, Nat.le_trans h.size (by simp), fun k hk hx => (Below.heap_alloc _ _ _ (Nat.lt_of_lt_of_le hk h.size)).trans (h.block k hk hx)⟩
theorem Fr.setCell {a b : World} {X : Nat → Prop} (h : Fr a b X) {p : Addr} (hp : X p.block ∨ a.heap.size ≤ p.block) (u : Value) : Fr a (b.setCell p u) X :=
  ⟨h.os, h.tape, h.output, Nat.le_trans h.size (by simp [World.setCell]), fun k hk hx => (Below.heap_setCell _ _ _ _ (fun e => by
    subst e
    rcases hp with hp | hp
    · exact hx hp
    · omega)).trans (h.block k hk hx)⟩
/-- two places change about -/
def swL (H : List (Int × Nat)) (a b : Nat) : List (Int × Nat) := (H.set a (H.getD b (0, 0))).set b (H.getD a (0, 0))
def dy (H : List (Int × Nat)) (k : Nat) : Int := (H.getD k (0, 0)).1
theorem swL_len (H : List (Int × Nat)) (a b : Nat) : (swL H a b).length = H.length := by simp [swL]
theorem swL_get {H : List (Int × Nat)} {a b : Nat} (ha : a < H.length) (hb : b < H.length) (k : Nat) : (swL H a b)[k]? = if k = a then H[b]? else if k = b then H[a]? else H[k]? := by
  unfold swL
  rw [List.getElem?_set, List.getElem?_set]
  simp only [List.length_set]
  by_cases h1 : b = k
  · subst h1
    rw [if_pos rfl, if_pos hb]
    by_cases h2 : b = a
    · rw [if_pos h2, ← h2]; simp [hb]
    · rw [if_neg h2, if_pos rfl]; simp [ha]
  · rw [if_neg h1]
    by_cases h2 : a = k
    · subst h2
      rw [if_pos rfl, if_pos ha, if_pos rfl]; simp [hb]
    · rw [if_neg h2, if_neg (fun e => h2 e.symm), if_neg (fun e => h1 e.symm)]
theorem swL_dy {H : List (Int × Nat)} {a b : Nat} (ha : a < H.length) (hb : b < H.length) : dy (swL H a b) = sw (dy H) a b := by
  funext k
  unfold dy sw
  rw [List.getD_eq_getElem?_getD, swL_get ha hb]
  split
  · simp [List.getD_eq_getElem?_getD]
  · split <;> simp [List.getD_eq_getElem?_getD]
theorem swL_mem {H : List (Int × Nat)} {a b : Nat} (ha : a < H.length) (hb : b < H.length) (x : Int × Nat) : x ∈ swL H a b ↔ x ∈ H := by
  rw [List.mem_iff_getElem?, List.mem_iff_getElem?]
  constructor
  · rintro ⟨k, hk⟩
    rw [swL_get ha hb] at hk
    split at hk
    · exact ⟨b, hk⟩
    · split at hk
      · exact ⟨a, hk⟩
      · exact ⟨k, hk⟩
  · rintro ⟨k, hk⟩
    by_cases h1 : k = a
    · refine ⟨b, ?_⟩
      rw [swL_get ha hb]
      by_cases h2 : b = a
      · rw [if_pos h2, h2, ← h1]; exact hk
      · rw [if_neg h2, if_pos rfl, ← h1]; exact hk
    · by_cases h2 : k = b
      · exact ⟨a, by rw [swL_get ha hb, if_pos rfl, ← h2]; exact hk⟩
      · exact ⟨k, by rw [swL_get ha hb, if_neg h1, if_neg h2]; exact hk⟩
theorem flatT_set : ∀ (H : List (Int × Nat)) (i : Nat) (x : Int × Nat), kT.flat (H.set i x) = ((kT.flat H).set (i * 2) (.int .i64 x.1)).set (i * 2 + 1) (ptr x.2)
  | [], i, x => by simp [Kd.flat]
  | h :: H, 0, x => by simp [Kd.flat, kT]
  | h :: H, i + 1, x => by
    have e : ∀ (y : Int × Nat) (L : List (Int × Nat)), kT.flat (y :: L) = .int .i64 y.1 :: ptr y.2 :: kT.flat L := fun y L => by simp [Kd.flat, kT]
    rw [List.set_cons_succ, e, e, flatT_set H i x, show (i + 1) * 2 = i * 2 + 1 + 1 by omega]
    rfl
theorem row_set {w : World} {g n cap size : Nat} {e : TypeId} {xs : List Value} (h : w.ownsRow 0 e size (.slice (some ⟨g, 0, none⟩) n cap) n xs) (j : Nat) (u : Value) : (w.setCell ⟨g, j, none⟩ u).ownsRow 0 e size (.slice (some ⟨g, 0, none⟩) n cap) n (xs.set j u) := by
  refine ⟨by rw [List.length_set]; exact h.1, ?_⟩
  rcases h.2 with ⟨h1, _⟩ | ⟨g', cap', cur, h1, _, h2, h3, h4, h5, h6⟩
  · cases h1
  · injection h1 with h1 _ h1c
    injection h1 with h1
    injection h1 with h1
    subst h1 h1c
    refine .inr ⟨g, cap, _, rfl, Nat.zero_le _, Go.heap_setCell_same w g j cur e u h2, h3, h4, ?_, ?_⟩
    · simpa using h5
    · rw [← h6]
      simp [List.take_set]
/-- the turns: a row in a block -/
def TR (W : World) (g n c : Nat) (H : List (Int × Nat)) : Prop := W.ownsRow 0 116 2 (.slice (some ⟨g, 0, none⟩) n c) n (kT.flat H) ∧ H.length = n
def setT (W : World) (g i : Nat) (x : Int × Nat) : World := W.setCells g (i * 2) [.int .i64 x.1, ptr x.2]
theorem TR.set {W : World} {g n c : Nat} {H : List (Int × Nat)} (h : TR W g n c H) (i : Nat) (x : Int × Nat) : TR (setT W g i x) g n c (H.set i x) := by
  refine ⟨?_, by rw [List.length_set]; exact h.2⟩
  have h2 := row_set (row_set h.1 (i * 2) (.int .i64 x.1)) (i * 2 + 1) (ptr x.2)
  rw [← flatT_set] at h2
  exact h2
theorem setT_fr {a b : World} {X : Nat → Prop} (h : Fr a b X) {g : Nat} (hg : X g ∨ a.heap.size ≤ g) (i : Nat) (x : Int × Nat) : Fr a (setT b g i x) X := (h.setCell (p := ⟨g, i * 2, none⟩) hg _).setCell (p := ⟨g, i * 2 + 1, none⟩) hg _
theorem TR.range {W : World} {g n c : Nat} {H : List (Int × Nat)} (h : TR W g n c H) {k : Nat} (hk : k < n) : W.rangeAt g (k * 2) [.int .i64 (H.getD k (0, 0)).1, ptr (H.getD k (0, 0)).2] := by
  have hk' : k < H.length := by rw [h.2]; exact hk
  obtain ⟨b, off, e, _, hr⟩ := (own_lies kT_ok h.2 h.1).2 k hk'
  cases e
  rw [Nat.zero_add] at hr
  have e2 : H.getD k (0, 0) = H[k] := by simp [hk']
  rw [e2]
  exact hr
theorem TR.day {W : World} {g n c : Nat} {H : List (Int × Nat)} (h : TR W g n c H) {k : Nat} (hk : k < n) : W.cell? ⟨g, k * 2, none⟩ = some (.int .i64 (dy H k)) := h.range hk 0 _ rfl
theorem TR.lt {W : World} {g n c : Nat} {H : List (Int × Nat)} (h : TR W g n c H) : g < W.heap.size ∧ n ≤ c ∧ tyAt W g = some 116 ∧ ∃ cur, W.heap[g]? = some (.cells cur 116 (0, 0)) := by
  refine ⟨(row_block h.1 rfl).2.1, ?_, row_ty h.1 rfl, ?_⟩
  all_goals
    rcases h.1.2 with ⟨h1, _⟩ | ⟨g', cap', cur, h1, _, h2, h3, h4, h5, h6⟩
    · cases h1
    · injection h1 with h1 _ h1c
      injection h1 with h1
      injection h1 with h1
      subst h1 h1c
      first | exact h3 | exact ⟨_, h2⟩
theorem TR.there {W : World} {g n c : Nat} {H : List (Int × Nat)} (h : TR W g n c H) {k : Nat} (hk : k < n) : W.there g (k * 2) 2 := by
  obtain ⟨_, _, _, cur, hc⟩ := h.lt
  intro j hj
  refine ⟨?_, froz_any hc⟩
  have : j = 0 ∨ j = 1 := by omega
  rcases this with rfl | rfl
  · rw [h.range hk 0 _ rfl]; rfl
  · rw [h.range hk 1 _ rfl]; rfl
where froz_any {W : World} {b i : Nat} {xs : Array Value} {t : TypeId} (h : W.heap[b]? = some (.cells xs t (0, 0))) : W.frozen? ⟨b, i, none⟩ = false := by simp [World.frozen?, h]
def ld86 (x : Value) : Sem Value := Instr.loadAt 116 x
theorem ld86_is (x : Value) : Instr.loadAt 116 x = ld86 x := rfl
def st86 (x y : Value) : Sem Unit := Instr.storeAt 116 x y
theorem st86_is (x y : Value) : Instr.storeAt 116 x y = st86 x y := rfl
theorem size86 : (Tryz.prog.info? 116).map (·.size) = some 2 := by kernel_rfl
theorem run_ld86 {w : World} {b o : Nat} {t : Int} {p : Nat} (h : w.rangeAt b o [.int .i64 t, ptr p]) : (ld86 (.pointer (some ⟨b, o, none⟩))).run Tryz.prog w = .ok (.agg #[.int .i64 t, ptr p]) w :=
  run_loadAt_mid (P := Tryz.prog) w b o 116 [.int .i64 t, ptr p] _ h Tryz.underlying116 rfl size86
theorem run_st86 {w : World} {b i : Nat} (h : w.there b (i * 2) 2) (t : Int) (p : Nat) : (st86 (.pointer (some ⟨b, i * 2, none⟩)) (.agg #[.int .i64 t, ptr p])).run Tryz.prog w = .ok () (setT w b i (t, p)) :=
  run_storeAt_mid (P := Tryz.prog) w b (i * 2) 116 #[.int .i64 t, ptr p] h size86 (by simp [Value.oneCell', ptr])
theorem TR.drewN {W : World} {g n c : Nat} {H : List (Int × Nat)} (h : TR W g n c H) (m : Nat) : TR (W.drewN m) g n c H := ⟨row_keep h.1 (fun _ _ => rfl), h.2⟩
end Go.Proofs.YtfclknlpdcanpaaGreatDoor
/- aged: push (55). -/
namespace Go.Proofs.YtfclknlpdcanpaaGreatDoor
open Go Go.Shelf Go.ChangeShapes Go.WideShapes Go.ChangeAt Go.RowKit Go.Maps
set_option linter.unusedVariables false
attribute [local go_sem ↓] ld86_is st86_is
/-- the turns behind a push or a pop -/
structure Trn (W w' : World) (d : Nat) (c0 c1 c2 c3 c4 c5 vt : Value) (n' : Nat) (H' : List (Int × Nat)) : Prop where
  fr : Fr W w' (fun k => k = d ∨ vt.ownBlock = some k)
  row : ∃ vt', w'.heap[d]? = some (.cells #[c0, c1, c2, c3, c4, c5, vt'] 100 (0, 0)) ∧ w'.ownsRow 0 116 2 vt' n' (kT.flat H') ∧ (vt'.ownBlock = vt.ownBlock ∨ ∃ g, vt'.ownBlock = some g ∧ W.heap.size ≤ g)
  len : H'.length = n'
  hp : Hp (dy H') n'
def PushOut (W w' : World) (d : Nat) (c0 c1 c2 c3 c4 c5 vt : Value) (n : Nat) (H : List (Int × Nat)) (t : Int) (p : Nat) : Prop := ∃ H', (∀ x, x ∈ H' ↔ x ∈ H ∨ x = (t, p)) ∧ Trn W w' d c0 c1 c2 c3 c4 c5 vt (n + 1) H'
theorem PushOut.drew {W w' : World} {d : Nat} {c0 c1 c2 c3 c4 c5 vt : Value} {n : Nat} {H : List (Int × Nat)} {t : Int} {p : Nat} (h : PushOut W w' d c0 c1 c2 c3 c4 c5 vt n H t p) : PushOut W w'.drew d c0 c1 c2 c3 c4 c5 vt n H t p := by
  obtain ⟨H', h1, h2⟩ := h
  exact ⟨H', h1, ⟨h2.fr.drew, h2.row, h2.len, h2.hp⟩⟩
theorem setT_other (W : World) (g i : Nat) (x : Int × Nat) (k : Nat) (h : k ≠ g) : (setT W g i x).heap[k]? = W.heap[k]? := by
  show ((W.setCell ⟨g, i * 2, none⟩ _).setCell ⟨g, i * 2 + 1, none⟩ _).heap[k]? = _
  rw [Below.heap_setCell _ _ _ _ h, Below.heap_setCell _ _ _ _ h]
theorem dy_append (H : List (Int × Nat)) (x : Int × Nat) (k : Nat) (hk : k < H.length) : dy (H ++ [x]) k = dy H k := by simp [dy, List.getElem?_append_left hk]
theorem hp_same {f g : Nat → Int} {n : Nat} (h : Hp f n) (e : ∀ k, k < n → g k = f k) : Hp g n := fun k h1 h2 => by
  rw [e k h2, e ((k - 1) / 2) (by omega)]
  exact h k h1 h2
/-- an append as a step of a region that draws, by its run -/
theorem step_append_run {P : Program} {ops : Array Oper} {o : Oper} {a : Act} {K : Act → World → Prop} {Q : Exit → Act → World → Prop} {E : Prop} (w : World) (hgd : o.guard = none) (s x : Operand) (t : TypeId)
    (ho : o.op = .call { callee := .builtin .append, args := #[s, x], argTypes := #[t, t] }) (v u v' : Value) (w' : World) (hs : a.eval s = v) (hx : a.eval x = u) (hr : (Builtin.append_ #[t, t] o.type #[v, u]).run P w = .ok v' w')
    (h : K (a.put o.dst v') w') : if Region.wanted o (yielded ops a.tmps) = true then Oper.wp P o a w K Q else E := by
  have hw : Region.wanted o (yielded ops a.tmps) = true := by simp [Region.wanted, hgd]
  rw [if_pos hw]
  unfold Oper.wp execOp
  simp only [ho, resolve, invoke, builtin, Sem.run_bind, Sem.run_pure, Result.andThen_ok, List.map_toArray, List.map_cons, List.map_nil, hs, hx, hr]
  exact h
set_option maxRecDepth 100000 in
set_option maxHeartbeats 8000000 in
theorem push_any {W : World} {d n : Nat} {c0 c1 c2 c3 c4 c5 vt : Value} {H : List (Int × Nat)} (hd : W.heap[d]? = some (.cells #[c0, c1, c2, c3, c4, c5, vt] 100 (0, 0))) (hv : W.ownsRow 0 116 2 vt n (kT.flat H)) (hn : H.length = n) (hn2 : n ≤ 1000000) (hp : Hp (dy H) n) (t : Int) (p : Nat) :
    Calls Tryz.prog 191 #[.pointer (some ⟨d, 6, none⟩), .agg #[.int .i64 t, ptr p]] W fun e w' => e = .returned (.tuple #[]) ∧ PushOut W w' d c0 c1 c2 c3 c4 c5 vt n H t p := by
  have hdl := heap_lt hd
  have hv' := hv
  obtain ⟨pv, cv, hvt, hnil, hsome⟩ := row_slice hv
  subst hvt
  have c6 : W.cell? ⟨d, 6, none⟩ = some (.slice pv n cv) := by simp [World.cell?, hd]
  obtain ⟨A, hA⟩ : ∃ A, A = W.alloc (.cells #[.int .i64 t, ptr p] 116) := ⟨_, rfl⟩
  obtain ⟨A2, hA2⟩ : ∃ A2, A2 = A.drew.alloc (.cells #[.int .i64 t, ptr p] 116) := ⟨_, rfl⟩
  have hr2 : A2.ownsRow 0 116 2 (.slice pv n cv) n (kT.flat H) := row_keep hv fun g hg => by
    have := (row_block hv hg).2.1
    rw [hA2, Below.heap_alloc _ _ _ (by rw [hA]; simp; omega)]
    show A.heap[g]? = _
    rw [hA, Below.heap_alloc _ _ _ this]
  have hl2 : Lies kT A2 (some ⟨A.heap.size, 0, none⟩) [(t, p)] := by rw [hA2]; exact one_lies A.drew (t, p) 116 _ rfl
  obtain ⟨p', c', w2, hrun, hown, hbel, hkeep, hloc⟩ := run_app kT_ok 98 hr2 (Nat.zero_le _) (some ⟨A.heap.size, 0, none⟩) 1 (fun h => by cases h) hl2 (by simp; omega)
  simp only [List.length_singleton] at hrun hown hloc
  obtain ⟨g, rfl⟩ : ∃ g, p' = some ⟨g, 0, none⟩ := by
    rcases hown.2 with ⟨h1, h2⟩ | ⟨g', cap', cur, h1, _⟩
    · omega
    · injection h1 with h1; exact ⟨g', h1⟩
  have hT : TR w2 g (n + 1) c' (H ++ [(t, p)]) := ⟨hown, by simp [hn]⟩
  have hsA : A.heap.size = W.heap.size + 1 := by rw [hA]; simp
  have hsA2 : A2.heap.size = W.heap.size + 2 := by rw [hA2]; simp [hsA]
  have hbA : ∀ k, k < W.heap.size → A2.heap[k]? = W.heap[k]? := fun k hk => by
    rw [hA2, Below.heap_alloc _ _ _ (by show k < A.heap.size; omega)]
    show A.heap[k]? = _
    rw [hA, Below.heap_alloc _ _ _ hk]
  have hfr : Fr W w2 (fun k => k = d ∨ (Value.slice pv n cv).ownBlock = some k) := ⟨by rw [hbel.os, hA2, hA]; rfl, by rw [hbel.tape, hA2, hA]; rfl, by rw [hbel.output, hA2, hA]; rfl, by have := hbel.size; omega, fun k hk hx => (hkeep k (by omega) (fun e => hx (.inr e))).trans (hbA k hk)⟩
  have hg2 : (Value.slice pv n cv).ownBlock = some g ∨ W.heap.size ≤ g := by
    rcases hloc with h | h
    · exact .inl h.symm
    · right
      have h3 : g = A2.heap.size := Option.some.inj h
      omega
  have hgd : g ≠ d := fun e => by
    rcases hg2 with h | h
    · have h1 := row_ty hv h
      rw [e, ty_of hd] at h1
      cases h1
    · omega
  have hd2 : w2.heap[d]? = some (.cells #[c0, c1, c2, c3, c4, c5, .slice pv n cv] 100 (0, 0)) := by
    rw [hkeep d (by omega) (fun e => by
      have h1 := row_ty hv e
      rw [ty_of hd] at h1
      cases h1), hbA d hdl]
    exact hd
  have HUP : HpUp (dy (H ++ [(t, p)])) (n + 1) n := HpUp.more (hp_same hp (fun k hk => dy_append H _ k (by rw [hn]; exact hk)))
  have hld := run_ld86 (w := A.drew) (b := W.heap.size) (o := 0) (t := t) (p := p) (fun i v hv => by
    show A.cell? _ = _
    rw [hA, World.cell?_alloc_mark, Nat.zero_add]; simpa using hv)
  have c6A : A.drew.cell? ⟨d, 6, none⟩ = some (.slice pv n cv) := by
    show A.cell? _ = _
    rw [hA]; simp [World.cell?, Below.heap_alloc _ _ _ hdl, hd]
  have c6B : (A.drew.alloc (.cells #[.int .i64 t, ptr p] 116)).cell? ⟨d, 6, none⟩ = some (.slice pv n cv) := by
    rw [← hA2]; simp [World.cell?, hbA d hdl, hd]
  have hldB := run_ld86 (w := A.drew.alloc (.cells #[.int .i64 t, ptr p] 116)) (b := W.heap.size) (o := 0) (t := t) (p := p) (fun i v hv => by
    rw [World.cell?_alloc_lt _ _ _ (by show W.heap.size < A.heap.size; omega)]
    show A.cell? _ = _
    rw [hA, World.cell?_alloc_mark, Nat.zero_add]; simpa using hv)
  have c6C : w2.cell? ⟨d, 6, none⟩ = some (.slice pv n cv) := by simp [World.cell?, hd2]
  have hgW : g ≠ W.heap.size := fun e => by
    rcases hloc with h | h
    · have := (row_block hv h.symm).2.1
      have h4 : ({ block := g, off := 0 } : Addr).block = g := rfl
      omega
    · have h3 : g = A2.heap.size := Option.some.inj h
      omega
  have hldC := run_ld86 (w := w2) (b := W.heap.size) (o := 0) (t := t) (p := p) (fun i v hv => by
    have h1 : w2.heap[W.heap.size]? = A2.heap[W.heap.size]? := hkeep W.heap.size (by omega) (fun e => by
      have := (row_block hv' e).2.1
      omega)
    rw [World.cell?_of_block (a := ⟨W.heap.size, 0 + i, none⟩) h1, hA2, World.cell?_alloc_lt _ _ _ (by show W.heap.size < A.heap.size; omega)]
    show A.cell? _ = _
    rw [hA, World.cell?_alloc_mark, Nat.zero_add]; simpa using hv)
  have hrun' := hrun
  rw [hA2, hsA] at hrun'
  have HT := hide hT; have HFR := hide hfr; have HD2 := hide hd2; have HG2 := hide hg2; have HU := hide HUP; have HN := hide hn; have HAs := hide hsA
  clear hT hfr hd2 hg2 HUP hn hrun hown hbel hkeep hloc hl2 hr2 hbA hsA2 hA2 hp hv hv' hgW hnil hsome hsA hd
  subst hA
  go_enter Tryz.func191, Tryz.ntmps191
  go_wp2_with fail
  refine wp_region_last (n := 7) (S := fun W' => W'.cell? ⟨d, 6, none⟩ = some (.slice pv n cv) ∧ (ld86 (.pointer (some ⟨W.heap.size, 0, none⟩))).run Tryz.prog W' = .ok (.agg #[.int .i64 t, ptr p]) W') (by kernel_rfl) (by exact ⟨c6A, hld⟩) (fun hHeld => ?_)
  refine tkW 0 ?_; refine tkW 1 ?_; refine tkN 2 ?_; refine tkN 3 ?_
  refine wpAnyL_one (i := 4) (by kernel_rfl) rfl (fun KK hK => ?_)
  go_simp
  refine hK.out _ _ (by exact ⟨c6B, hldB⟩) (fun hHeld => ?_)
  clear hK KK
  refine wpAnyL_one (i := 5) (by kernel_rfl) rfl (fun KK hK => ?_)
  refine step_append_run _ (by rfl) _ _ _ (by rfl) _ _ _ _ (by rfl) (by rfl) hrun' ?_
  refine hK.out _ _ (by exact ⟨c6C, hldC⟩) (fun hHeld => ?_)
  clear hK KK
  refine wpAnyL_one (i := 6) (by kernel_rfl) rfl (fun KK hK => ?_)
  go_simp
  refine hK.out _ _ (by exact ⟨c6C, hldC⟩) (fun hHeld => ?_)
  clear hK KK
  refine wpAnyL_done (by kernel_rfl) ?_
  clear hHeld c6A c6B hld hldB c6 hrun' hldC
  go_wp2_with fail
  go_loopw [5] (fun v5 wr => ∃ (i : Nat) (I : Int) (L : List (Int × Nat)), v5 = .int .i64 I ∧ I = i ∧ i ≤ n ∧ Hid (TR wr g (n + 1) c' L ∧ HpUp (dy L) (n + 1) i ∧ (∀ x, x ∈ L ↔ x ∈ H ∨ x = (t, p)) ∧ Fr W wr (fun k => k = d ∨ (Value.slice pv n cv).ownBlock = some k) ∧ wr.heap[d]? = some (.cells #[c0, c1, c2, c3, c4, c5, .slice pv n cv] 100 (0, 0)))) (fun v5 _ => (intOf v5).toNat)
  case atStart => exact ⟨n, n, H ++ [(t, p)], rfl, rfl, Nat.le_refl _, unhide HT, unhide HU, fun x => by simp, unhide HFR, unhide HD2⟩
  case round =>
    obtain ⟨i, I, L, rfl, hI, hi, hrel⟩ := hrel
    obtain ⟨hT, hU, hm, hF, hD⟩ := unhide hrel
    have d6 : wr.cell? ⟨d, 6, none⟩ = some (.slice pv n cv) := by simp [World.cell?, hD]
    have f6 : wr.frozen? ⟨d, 6, none⟩ = false := by simp [World.frozen?, hD]
    have HT1 := hide hT; have HU1 := hide hU; have HM1 := hide hm; have HF1 := hide hF; have HD1 := hide hD
    have HEND : Hid (Hp (dy L) (n + 1) → PushOut W (wr.setCell ⟨d, 6, none⟩ (.slice (some ⟨g, 0, none⟩) (n + 1) c')) d c0 c1 c2 c3 c4 c5 (.slice pv n cv) n H t p) := fun hh => by
      refine ⟨L, hm, ⟨hF.setCell (p := ⟨d, 6, none⟩) (.inl (.inl rfl)) _, ⟨.slice (some ⟨g, 0, none⟩) (n + 1) c', (Go.heap_setCell_same wr d 6 _ 100 _ hD).trans rfl, ?_, ?_⟩, hT.2, hh⟩⟩
      · exact row_keep hT.1 (fun k hk => Below.heap_setCell _ _ _ _ (fun e => hgd ((show g = k from Option.some.inj hk).trans e)))
      · exact (unhide HG2).imp Eq.symm (fun h => ⟨g, rfl, h⟩)
    clear hrel hT hU hm hF hD
    by_cases h0 : i = 0
    · subst h0
      have hI0 : ¬ I > 0 := by omega
      have HFIN := hide (unhide HEND ((unhide HU1).stop (.inl rfl)))
      go_wp2_with fail
      go_end0
      exact ⟨rfl, unhide HFIN⟩
    · have hI0 : I > 0 := by omega
      have hw1 : IntKind.i64.wrap (I - 1) = I - 1 := by rw [IntKind.wrap_i64]; omega
      obtain ⟨u, hu⟩ : ∃ u, u = (i - 1) / 2 := ⟨_, rfl⟩
      obtain ⟨U, hUu⟩ : ∃ U : Int, U = u := ⟨_, rfl⟩
      have hq1 : (I - 1).tdiv 2 = U := by rw [Int.tdiv_eq_ediv_of_nonneg (by omega)]; omega
      have hq2 : (I - 1) / 2 = U := by omega
      have hwU : IntKind.i64.wrap U = U := by rw [IntKind.wrap_i64]; omega
      have hUt : U.toNat = u := by omega
      have hIt : I.toNat = i := by omega
      have hU1 : 0 ≤ U := by omega
      have hU2 : U < n + 1 := by omega
      have hI2 : I < n + 1 := by omega
      have hI3 : 0 ≤ I := by omega
      have HUR := hide (show u < i from by omega); have HIN := hide hi; have HU0 := hide h0; have HII := hide hI; have HUU := hide hUu; have HUE := hide hu
      have hcU := (unhide HT1).day (k := u) (by omega)
      have hcI := (unhide HT1).day (k := i) (by omega)
      obtain ⟨DU, hDU⟩ : ∃ DU, dy L u = DU := ⟨_, rfl⟩
      obtain ⟨DI, hDI⟩ : ∃ DI, dy L i = DI := ⟨_, rfl⟩
      rw [hDU] at hcU
      rw [hDI] at hcI
      have HDU := hide hDU; have HDI := hide hDI
      clear hI hUu hu h0 hi hDU hDI
      go_wp2_with fail
      refine wp_region_last (n := 11) (S := fun W' => W'.cell? ⟨g, u * 2, none⟩ = some (.int .i64 DU) ∧ W'.cell? ⟨g, i * 2, none⟩ = some (.int .i64 DI)) (by kernel_rfl) (by exact ⟨hcU, hcI⟩) (fun hHeld => ?_)
      refine tkW 0 ?_; refine tkW 1 ?_; refine tkW 2 ?_; refine tkW 3 ?_; refine tkN 4 ?_; refine tkW 5 ?_; refine tkW 6 ?_; refine tkW 7 ?_; refine tkW 8 ?_; refine tkN 9 ?_; refine tkW 10 ?_
      refine wpAnyL_done (by kernel_rfl) ?_
      clear hHeld
      by_cases hle : DU ≤ DI
      · have HFIN := hide (unhide HEND ((unhide HU1).stop (.inr (by rw [← unhide HUE, unhide HDU, unhide HDI]; exact hle))))
        go_wp2_with fail
        go_end0
        exact ⟨rfl, (unhide HFIN).drew⟩
      · obtain ⟨xi, hxi⟩ : ∃ x, x = L.getD i (0, 0) := ⟨_, rfl⟩
        obtain ⟨xu, hxu⟩ : ∃ x, x = L.getD u (0, 0) := ⟨_, rfl⟩
        obtain ⟨w3, hw3⟩ : ∃ w3, w3 = setT wr.drew.drew g u xi := ⟨_, rfl⟩
        have hiN := unhide HIN; have huI := unhide HUR
        have hT1 : TR wr.drew.drew g (n + 1) c' L := (unhide HT1).drewN 2
        have hT3 : TR w3 g (n + 1) c' (L.set u xi) := by rw [hw3]; exact hT1.set u xi
        have lu := run_ld86 (hT1.range (k := u) (by omega))
        have li := run_ld86 (hT1.range (k := i) (by omega))
        rw [← hxu] at lu
        rw [← hxi] at li
        have s1 := run_st86 (hT1.there (k := u) (by omega)) xi.1 xi.2
        have s2 := run_st86 (hT3.there (k := i) (by omega)) xu.1 xu.2
        have HREL : Hid (TR (setT w3 g i xu) g (n + 1) c' (swL L u i) ∧ HpUp (dy (swL L u i)) (n + 1) u ∧ (∀ x, x ∈ swL L u i ↔ x ∈ H ∨ x = (t, p)) ∧ Fr W (setT w3 g i xu) (fun k => k = d ∨ (Value.slice pv n cv).ownBlock = some k) ∧ (setT w3 g i xu).heap[d]? = some (.cells #[c0, c1, c2, c3, c4, c5, .slice pv n cv] 100 (0, 0))) := by
          have hul : u < L.length := by rw [hT1.2]; omega
          have hil : i < L.length := by rw [hT1.2]; omega
          refine ⟨?_, ?_, fun x => (swL_mem hul hil x).trans (unhide HM1 x), ?_, ?_⟩
          · have := hT3.set i xu
            rw [hxi, hxu] at this
            rw [hxu]
            exact this
          · rw [swL_dy hul hil]
            have := (unhide HU1).step (by have := unhide HU0; omega) (by omega) (by rw [← unhide HUE, unhide HDU, unhide HDI]; omega)
            rw [← unhide HUE] at this
            exact this
          · rw [hw3]
            exact setT_fr (setT_fr (unhide HF1).drew.drew ((unhide HG2).imp .inr id) _ _) ((unhide HG2).imp .inr id) _ _
          · rw [hw3]
            rw [setT_other _ _ _ _ _ (fun e => hgd e.symm), setT_other _ _ _ _ _ (fun e => hgd e.symm)]
            exact unhide HD1
        clear hT1 hT3 hxi hxu hiN huI
        rw [← hw3] at s1
        clear hw3
        go_wp2_with fail
        refine wp_region_last (n := 13) (S := fun W' => (ld86 (.pointer (some ⟨g, u * 2, none⟩))).run Tryz.prog W' = .ok (.agg #[.int .i64 xu.1, ptr xu.2]) W' ∧ (ld86 (.pointer (some ⟨g, i * 2, none⟩))).run Tryz.prog W' = .ok (.agg #[.int .i64 xi.1, ptr xi.2]) W' ∧ W' = wr.drew.drew) (by kernel_rfl) (by exact ⟨lu, li, rfl⟩) (fun hHeld => ?_)
        refine tkW 0 ?_; refine tkW 1 ?_; refine tkW 2 ?_; refine tkW 3 ?_; refine tkW 4 ?_; refine tkW 5 ?_; refine tkW 6 ?_; refine tkS 7 ?_; refine tkW 8 ?_; refine tkW 9 ?_; refine tkW 10 ?_; refine tkS 11 ?_; refine tkW 12 ?_
        clear hHeld
        refine wpAnyL_past (i := 13) (by kernel_rfl) rfl (by kernel_rfl) (fun KK hK => ?_)
        go_simp
        refine hK.out _ _ ?_
        clear hK KK
        refine wpAnyL_past (i := 14) (by kernel_rfl) rfl (by kernel_rfl) (fun KK hK => ?_)
        go_simp
        refine hK.out _ _ ?_
        clear hK KK
        refine wpAnyL_past (i := 15) (by kernel_rfl) rfl (by kernel_rfl) (fun KK hK => ?_)
        go_simp
        refine hK.out _ _ ?_
        clear hK KK
        refine wpAnyL_done (by kernel_rfl) ?_
        go_wp2_with fail
        refine ⟨⟨u, U, swL L u i, rfl, unhide HUU, by have := unhide HIN; have := unhide HUR; omega, unhide HREL⟩, ?_⟩
        simp only [intOf]
        have := unhide HUR
        omega
end Go.Proofs.YtfclknlpdcanpaaGreatDoor
