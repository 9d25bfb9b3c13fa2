import Derived.Test.YtdeibifjiefapaaGreatDoorW14
import Derived.Test.YtdeibifjiefapaaGreatDoorW03
import Derived.Lib.LaidTab
import Derived.Sort.Grow
import Derived.Lib.ItoaLen
import Derived.Shelf.SlSortCmp.QuietGrown
import Derived.Deep.RegionHeld3
import Derived.Deep.Onto
/- The keeper's marks: text (156), behind (171), Book.id (95); quiet regions. -/
namespace Go.Proofs.YtdeibifjiefapaaGreatDoor.Kg
open Go Go.ChangeShapes Go.WideShapes Go.ChangeAt Go.RowKit Go.Sort
set_option linter.unusedVariables false
theorem bal {w W : World} (h : Below w.heap.size w W) (o : Obj) : Below w.heap.size w (W.alloc o) := h.alloc h.size o
/-- the powers of ten lie in their variable -/
def Pw (w : World) : Prop := Lib.TabIs Tryz.prog w "internal/strconv.uint64pow10" .u64 Lib.pow10Tab
theorem pw_no : Tryz.prog.globalNamed "internal/strconv.uint64pow10" = some 1 := by kernel_rfl
theorem Pw.keep {w w' : World} (h : Pw w) (hb : w'.heap[1]? = w.heap[1]?) : Pw w' := by
  unfold Pw Lib.TabIs World.var? at h ⊢
  rw [pw_no] at h ⊢
  simp only [Option.bind_some] at h ⊢
  rw [hb]
  exact h
theorem Pw.lt {w : World} (h : Pw w) : 1 < w.heap.size := by
  unfold Pw Lib.TabIs World.var? at h
  rw [pw_no] at h
  simp only [Option.bind_some] at h
  rcases Nat.lt_or_ge 1 w.heap.size with h' | h'
  · exact h'
  · rw [Array.getElem?_eq_none h'] at h; cases h
theorem Pw.below {w w' : World} (h : Pw w) (hb : Below w.heap.size w w') : Pw w' := h.keep (hb.block 1 h.lt)
/-- a world some draws later, with some blocks behind it -/
def Grn (w w' : World) : Prop := ∃ q os, w' = grow (w.drewN q) os
theorem Grn.trans {a b c : World} (h : Grn a b) (k : Grn b c) : Grn a c := by
  obtain ⟨q, os, rfl⟩ := h
  obtain ⟨q', os', rfl⟩ := k
  exact ⟨q + q', os ++ os', by show grow (grow ((a.drewN q).drewN q') os) os' = _; rw [grow_grow, World.drewN_drewN]⟩
theorem Grn.refl (w : World) : Grn w w := ⟨0, #[], by rw [grow_empty]; rfl⟩
theorem Grn.below {w w' : World} (h : Grn w w') : Below w.heap.size w w' := by
  obtain ⟨q, os, rfl⟩ := h
  exact ⟨rfl, rfl, rfl, by simp, fun k hk => heap_grow_old (w.drewN q) os hk⟩
/-- a number's digits -/
def itS (n : Nat) : ByteArray := ⟨(Lib.itoa (n : Int)).toArray⟩
theorem itoa_any (n : Nat) (hn : n < 1000000) (w : World) (h : Pw w) : Calls Tryz.prog 210 #[.int .i64 (n : Int)] w fun e w' => e = .returned (.string (itS n)) ∧ Grn w w' :=
  (Tryz.strconv_Itoa (n : Int) (by omega) (by omega) w h)
theorem itS_size (n : Nat) (hn : n < 1000000) : (itS n).size ≤ 21 := by
  have h := Lib.itoa_length_le (n : Int) (by omega) (by omega)
  simpa [itS, ByteArray.size] using h
/-- a mark that is a text -/
def mkS (id k : Nat) : ByteArray := (⟨#[109, 97, 114, 107, 32]⟩ : ByteArray) ++ itS id ++ (⟨#[32]⟩ : ByteArray) ++ itS k
set_option maxHeartbeats 1000000 in
theorem text_any (id k : Nat) (hid : id < 1000000) (hk : k < 1000000) (w : World) (h : Pw w) : Calls Tryz.prog 156 #[.int .i64 (id : Int), .int .i64 (k : Int)] w fun e w' => e = .returned (.string (mkS id k)) ∧ Grn w w' := by
  have d1 := hide (itoa_any id hid w h)
  have HP := hide h
  have s1 := itS_size id hid
  have s2 := itS_size k hk
  have n1 : ¬ 9223372036854775807 < 5 + (itS id).size := by omega
  have n2 : ¬ 9223372036854775807 < 5 + (itS id).size + 1 := by omega
  have n3 : ¬ 9223372036854775807 < 5 + (itS id).size + 1 + (itS k).size := by omega
  clear h
  go_enter Tryz.func156, Tryz.ntmps156
  go_wp2_with fail
  refine (unhide d1).mono ?_
  rintro e w1 ⟨rfl, hg⟩
  have G1 := hide hg
  have d2 := hide (itoa_any k hk w1 ((unhide HP).below hg.below))
  clear hg
  go_wp2_with fail
  refine (unhide d2).mono ?_
  rintro e w2 ⟨rfl, hg⟩
  have G2 := hide hg
  clear hg
  go_wp2_with fail
  go_ret
  exact ⟨rfl, (unhide G1).trans (unhide G2)⟩
set_option maxHeartbeats 1000000 in
theorem behind_any (id : Nat) (hid : id < 1000) (w : World) : Calls Tryz.prog 171 #[.int .i64 (id : Int)] w fun e w' => e = .returned (.int .i64 ((id + 100000 : Nat) : Int)) ∧ w' = w := by
  go_enter Tryz.func171, Tryz.ntmps171
  go_wp2_with fail
  go_ret
  exact ⟨by simp, rfl⟩
set_option maxHeartbeats 1000000 in
theorem id_any (bk k : Nat) (hk : k < 1000) (w : World) (h : w.cell? ⟨bk, 0, none⟩ = some (.int .i64 (k : Int))) (hf : w.frozen? ⟨bk, 0, none⟩ = false) : Calls Tryz.prog 95 #[.pointer (some ⟨bk, 0, none⟩)] w fun e w' => e = .returned (.int .i64 ((k : Int) + 1)) ∧ w' = w.setCell ⟨bk, 0, none⟩ (.int .i64 ((k : Int) + 1)) := by
  have h2 : (w.setCell ⟨bk, 0, none⟩ (.int .i64 ((k : Int) + 1))).cell? ⟨bk, 0, none⟩ = some (.int .i64 ((k : Int) + 1)) := World.cell?_setCell_same _ _ _ h
  go_enter Tryz.func95, Tryz.ntmps95
  go_wp2_with fail
  go_ret
  exact ⟨rfl, rfl⟩
structure Bel (w : World) where
  W : World
  h : Below w.heap.size w W
@[reducible] def belInh (w : World) : Inhabited (Bel w) := ⟨⟨w, Below.refl _ _⟩⟩
attribute [instance] belInh
theorem wp_region_quiet_below {id : Nat} {Q : Exit → Act → World → Prop} {a : Act} {w : World} {l : List Oper} (hm : Tryz.prog.follows .mixedOrders = true) (hB : Region.lexB .any l.toArray = true)
    (h : wpQuiet Tryz.prog l.toArray (fun w' => ∃ p : Bel w, w' = p.W) (fun a' => ∀ w', (∃ p : Bel w, w' = p.W) → Q .normal a' w') l a) : (Code.region id l.toArray true).wp Tryz.prog Q a w :=
  wp_region_quiet (C := fun w' => ∃ p : Bel w, w' = p.W) hm hB ⟨⟨w.drew, below_drewN (Below.refl _ w) 1⟩, rfl⟩ (by simpa using h)
end Go.Proofs.YtdeibifjiefapaaGreatDoor.Kg
/- The keeper's pages of any kind of element: what they are. No program in it. The book lies at the place 6 of its block. -/
namespace Go.Proofs.YtdeibifjiefapaaGreatDoor.Kg
open Go Go.Shelf Go.ChangeShapes Go.WideShapes Go.ChangeAt Go.RowKit Go.Maps
set_option linter.unusedVariables false
/-- a kind that is kept: its elements, its marks, the type of its pages, the place of its list in the play -/
structure Kk (α : Type) where
  K : Kd α
  mark : Nat → Nat → α
  T : TypeId
  R : TypeId
  sl : Nat
variable {α : Type} {Z : Kk α}
def mks (Z : Kk α) (id n : Nat) : List α := (List.range n).map (Z.mark id)
theorem mks_len (Z : Kk α) (id n : Nat) : (mks Z id n).length = n := by simp [mks]
theorem mks_get (Z : Kk α) (id n k : Nat) (h : k < (mks Z id n).length) : (mks Z id n)[k] = Z.mark id k := by simp [mks]
theorem mks_succ (Z : Kk α) (id n : Nat) : mks Z id (n + 1) = mks Z id n ++ [Z.mark id n] := by simp [mks, List.range_succ]
/-- a list that was filled with marks, and marks behind it -/
def mkm (Z : Kk α) (id n j : Nat) : List α := mks Z id n ++ mks Z (id + 100000) j
theorem mkm_len (Z : Kk α) (id n j : Nat) : (mkm Z id n j).length = n + j := by simp [mkm, mks_len]
theorem mkm_lt (Z : Kk α) (id n j k : Nat) (h : k < (mkm Z id n j).length) (hk : k < n) : (mkm Z id n j)[k] = Z.mark id k := by
  have e : (mkm Z id n j)[k]? = some (Z.mark id k) := by
    unfold mkm
    rw [List.getElem?_append_left (by rw [mks_len]; exact hk), List.getElem?_eq_getElem (by rw [mks_len]; exact hk), mks_get]
  rw [List.getElem?_eq_getElem h] at e
  exact Option.some.inj e
theorem mkm_ge (Z : Kk α) (id n j k : Nat) (h : n + k < (mkm Z id n j).length) : (mkm Z id n j)[n + k] = Z.mark (id + 100000) k := by
  have hk : k < j := by rw [mkm_len] at h; omega
  have e : (mkm Z id n j)[n + k]? = some (Z.mark (id + 100000) k) := by
    unfold mkm
    rw [List.getElem?_append_right (by rw [mks_len]; omega), mks_len, Nat.add_sub_cancel_left, List.getElem?_eq_getElem (by rw [mks_len]; exact hk), mks_get]
  rw [List.getElem?_eq_getElem h] at e
  exact Option.some.inj e
theorem mkm_succ (Z : Kk α) (id n j : Nat) : mkm Z id n (j + 1) = mkm Z id n j ++ [Z.mark (id + 100000) j] := by unfold mkm; rw [mks_succ, List.append_assoc]
theorem mkm_zero (Z : Kk α) (id n : Nat) : mkm Z id n 0 = mks Z id n := by simp [mkm, mks]
theorem own_open {w : World} {B e s n : Nat} {v : Value} {xs : List Value} (h : w.ownsRow B e s v n xs) (hn : 0 < n) : ∃ g c, v = .slice (some ⟨g, 0, none⟩) n c := by
  rcases h.2 with ⟨_, h0⟩ | ⟨g, cap, cur, e, _⟩
  · omega
  · exact ⟨g, cap, e⟩
theorem row_far {W W' : World} {B e s n : Nat} {v : Value} {xs : List Value} (h : W.ownsRow B e s v n xs) (hk : ∀ g, v.ownBlock = some g → W'.heap[g]? = W.heap[g]?) : W'.ownsRow B e s v n xs := row_keep h hk
theorem row_lt {W : World} {B e s n : Nat} {v : Value} {xs : List Value} (h : W.ownsRow B e s v n xs) {q : Nat} (hq : v.ownBlock = some q) : B ≤ q ∧ q < W.heap.size := ⟨(row_block h hq).1, (row_block h hq).2.1⟩
theorem keep1 {w w' : World} {b i : Nat} {u : Value} (h : Below w.heap.size w w') (hb : b < w.heap.size) (hc : w.cell? ⟨b, i, none⟩ = some u) : w'.cell? ⟨b, i, none⟩ = some u := (h.cell (p := ⟨b, i, none⟩) hb).trans hc
theorem keepF {w w' : World} {b i : Nat} {u : Bool} (h : Below w.heap.size w w') (hb : b < w.heap.size) (hc : w.frozen? ⟨b, i, none⟩ = u) : w'.frozen? ⟨b, i, none⟩ = u := (h.frozen (p := ⟨b, i, none⟩) hb).trans hc
theorem grown_set (w : World) (gb k : Nat) (v : Value) : w.grownBy (w.setCell ⟨gb, k, none⟩ v) (some gb) := ⟨rfl, rfl, rfl, by simp [World.setCell], fun i hi hne => Below.heap_setCell _ _ _ _ (fun e => hne (by rw [e]))⟩
/-- a page: its list L of n elements, the longer one G, the copy W, its number, how far it is (0 kept, 1 filled, 2 grown), what it showed -/
structure Pg (α : Type) where
  L : Value
  n : Nat
  G : Value
  W : Value
  id : Nat
  s : Nat
  X : List α
def Pg.cells (p : Pg α) : List Value := [p.L, p.G, p.W, .int .i64 (p.id : Int), .bool (decide (0 < p.s))]
def Pg.has (p : Pg α) (q : Nat) : Prop := p.L.ownBlock = some q ∨ p.G.ownBlock = some q ∨ p.W.ownBlock = some q
/-- a list that shows elements -/
def LShows (K : Kd α) (w : World) (L : Value) (n : Nat) (M : List α) : Prop := ∃ pp c, L = .slice pp n c ∧ Lies K w pp M
theorem LShows.of_own {K : Kd α} (hK : KdOK K) {w : World} {B n : Nat} {L : Value} {M : List α} (hn : M.length = n) (h : w.ownsRow B K.e K.s L n (K.flat M)) : LShows K w L n M := by
  obtain ⟨p, c, e, _⟩ := row_slice h
  subst e
  exact ⟨p, c, rfl, own_lies hK hn h⟩
theorem LShows.far {K : Kd α} {w w' : World} {L : Value} {n : Nat} {M : List α} (h : LShows K w L n M) (hz : w.heap.size ≤ w'.heap.size) (hq : ∀ q, L.ownBlock = some q → w'.heap[q]? = w.heap[q]?) : LShows K w' L n M := by
  obtain ⟨pp, c, rfl, h⟩ := h
  refine ⟨pp, c, rfl, h.1, fun k hk => ?_⟩
  obtain ⟨b, off, e, hlt, hr⟩ := h.2 k hk
  subst e
  exact ⟨b, off, rfl, Nat.lt_of_lt_of_le hlt hz, fun j u hu => (World.cell?_of_block (a := ⟨b, off + k * K.s + j, none⟩) (hq b rfl)).trans (hr j u hu)⟩
/-- what a page says of the world -/
structure Pg.OK (Z : Kk α) (p : Pg α) (w : World) : Prop where
  le : p.n ≤ 900000
  idl : p.id < 1000
  s0 : p.s = 0 → w.ownsRow 0 Z.K.e Z.K.s p.L p.n (Z.K.flat p.X) ∧ p.G = .slice none 0 0 ∧ w.ownsRow 0 Z.K.e Z.K.s p.W p.n (Z.K.flat p.X)
  s1 : p.s = 1 → w.ownsRow 0 Z.K.e Z.K.s p.L p.n (Z.K.flat (mks Z p.id p.n)) ∧ p.G = .slice none 0 0
  s2 : p.s = 2 → LShows Z.K w p.L p.n (mks Z p.id p.n) ∧ w.ownsRow 0 Z.K.e Z.K.s p.G (p.n + 64) (Z.K.flat (mkm Z p.id p.n 64))
  s3 : p.s ≤ 2
  len : p.X.length = p.n
theorem Pg.OK.far {p : Pg α} {w w' : World} (h : p.OK Z w) (hz : w.heap.size ≤ w'.heap.size) (hq : ∀ q, p.has q → w'.heap[q]? = w.heap[q]?) : p.OK Z w' :=
  ⟨h.le, h.idl, fun e => ⟨row_far (h.s0 e).1 (fun q hq' => hq q (.inl hq')), (h.s0 e).2.1, row_far (h.s0 e).2.2 (fun q hq' => hq q (.inr (.inr hq')))⟩,
    fun e => ⟨row_far (h.s1 e).1 (fun q hq' => hq q (.inl hq')), (h.s1 e).2⟩,
    fun e => ⟨(h.s2 e).1.far hz (fun q hq' => hq q (.inl hq')), row_far (h.s2 e).2 (fun q hq' => hq q (.inr (.inl hq')))⟩, h.s3, h.len⟩
/-- the pages' cells, one behind the other -/
def pages (p : Nat → Pg α) : Nat → List Value
  | 0 => []
  | m + 1 => pages p m ++ (p m).cells
theorem pages_len (p : Nat → Pg α) : ∀ m, (pages p m).length = m * 5
  | 0 => rfl
  | m + 1 => by simp [pages, pages_len p m, Pg.cells]; omega
theorem pages_get (p : Nat → Pg α) (c : Nat) (hc : c < 5) : ∀ m i, i < m → (pages p m)[i * 5 + c]? = (p i).cells[c]?
  | 0, i, h => by omega
  | m + 1, i, h => by
    by_cases e : i = m
    · subst e
      rw [pages, List.getElem?_append_right (by rw [pages_len]; omega), pages_len]
      congr 1
      omega
    · rw [pages, List.getElem?_append_left (by rw [pages_len]; omega)]
      exact pages_get p c hc m i (by omega)
theorem pages_ext {p p' : Nat → Pg α} : ∀ m, (∀ i, i < m → (p i).cells = (p' i).cells) → pages p m = pages p' m
  | 0, _ => rfl
  | m + 1, h => by rw [pages, pages, pages_ext m (fun i hi => h i (by omega)), h m (by omega)]
/-- one page changed -/
def upd (p : Nat → Pg α) (i : Nat) (P : Pg α) : Nat → Pg α := fun j => if j = i then P else p j
theorem upd_same (p : Nat → Pg α) (i : Nat) (P : Pg α) : upd p i P i = P := by simp [upd]
theorem upd_other (p : Nat → Pg α) (i j : Nat) (P : Pg α) (h : j ≠ i) : upd p i P j = p j := by simp [upd, h]
theorem pages_set (p : Nat → Pg α) (i : Nat) (P : Pg α) (c : Nat) (v : Value) (hc : c < 5) (hP : P.cells = (p i).cells.set c v) : ∀ m, i < m → (pages p m).set (i * 5 + c) v = pages (upd p i P) m
  | 0, h => by omega
  | m + 1, h => by
    by_cases e : i = m
    · subst e
      rw [pages, pages, upd_same, hP, List.set_append_right _ _ (by rw [pages_len]; omega), pages_len, pages_ext i (p' := upd p i P) (fun j hj => by rw [upd_other _ _ _ _ (by omega)])]
      congr 2
      omega
    · rw [pages, pages, upd_other _ _ _ _ (by omega), List.set_append_left _ _ (by rw [pages_len]; omega), pages_set p i P c v hc hP m (by omega)]
/-- a book: its next number, its row of pages, nothing of the other kinds -/
structure KindAt (Z : Kk α) (w : World) (bk m : Nat) (R : Value) (p : Nat → Pg α) : Prop where
  c1 : w.cell? ⟨bk, Z.sl, none⟩ = some R
  fz : ∀ i, w.frozen? ⟨bk, i, none⟩ = false
  row : w.ownsRow 0 Z.T 5 R m (pages p m)
  rb : R.ownBlock ≠ some bk
  ok : ∀ i, i < m → (p i).OK Z w
  far : ∀ i, i < m → ∀ q, (p i).has q → q ≠ bk ∧ R.ownBlock ≠ some q ∧ q < w.heap.size
  apart : ∀ i j, i < m → j < m → i ≠ j → ∀ q, (p i).has q → ¬ (p j).has q
  tab : Pw w
  b3 : bk ≠ 1
  r3 : R.ownBlock ≠ some 1
  p3 : ∀ i, i < m → ¬ (p i).has 1
theorem KindAt.lt {w : World} {bk m : Nat} {R : Value} {p : Nat → Pg α} (h : KindAt Z w bk m R p) : bk < w.heap.size := World.block_lt_of_cell? w ⟨bk, Z.sl, none⟩ h.c1
/-- the book stands where its blocks stand -/
theorem KindAt.stay {w w' : World} {bk m : Nat} {R : Value} {p : Nat → Pg α} (h : KindAt Z w bk m R p) (hz : w.heap.size ≤ w'.heap.size) (hb : w'.heap[bk]? = w.heap[bk]?) (hr : ∀ q, R.ownBlock = some q → w'.heap[q]? = w.heap[q]?) (hp : ∀ i, i < m → ∀ q, (p i).has q → w'.heap[q]? = w.heap[q]?) (ht : w'.heap[1]? = w.heap[1]?) : KindAt Z w' bk m R p :=
  ⟨(World.cell?_of_block hb).trans h.c1, fun i => (World.frozen?_of_block hb).trans (h.fz i), row_far h.row hr, h.rb,
    fun i hi => (h.ok i hi).far hz (hp i hi), fun i hi q hq => ⟨(h.far i hi q hq).1, (h.far i hi q hq).2.1, by have := (h.far i hi q hq).2.2; omega⟩, h.apart, h.tab.keep ht, h.b3, h.r3, h.p3⟩
theorem KindAt.below {w w' : World} {bk m : Nat} {R : Value} {p : Nat → Pg α} (h : KindAt Z w bk m R p) (hb : Below w.heap.size w w') : KindAt Z w' bk m R p :=
  h.stay hb.size (hb.block _ h.lt) (fun q hq => hb.block q (row_lt h.row hq).2) (fun i hi q hq => hb.block q (h.far i hi q hq).2.2) (hb.block 1 h.tab.lt)
/-- one page changed, in a new world -/
theorem KindAt.put {w w' : World} {bk m i : Nat} {R : Value} {p : Nat → Pg α} {P : Pg α} (h : KindAt Z w bk m R p) (hi : i < m) (hrow : w'.ownsRow 0 Z.T 5 R m (pages (upd p i P) m)) (hok : P.OK Z w') (hz : w.heap.size ≤ w'.heap.size)
    (hfar : ∀ q, q < w.heap.size → R.ownBlock ≠ some q → ¬ (p i).has q → w'.heap[q]? = w.heap[q]?) (hhas : ∀ q, P.has q → (p i).has q ∨ w.heap.size ≤ q) (hlt : ∀ q, P.has q → q < w'.heap.size) : KindAt Z w' bk m R (upd p i P) := by
  have hbk := h.lt
  have hb : w'.heap[bk]? = w.heap[bk]? := hfar bk hbk h.rb (fun hq => (h.far i hi bk hq).1 rfl)
  have hRlt : ∀ q, R.ownBlock = some q → q < w.heap.size := fun q hq => (row_lt h.row hq).2
  refine ⟨(World.cell?_of_block hb).trans h.c1, fun i => (World.frozen?_of_block hb).trans (h.fz i), hrow, h.rb, fun j hj => ?_, fun j hj q hq => ?_, fun a b ha hb' hab q hq hq' => ?_, h.tab.keep (hfar 1 h.tab.lt h.r3 (h.p3 i hi)), h.b3, h.r3, fun j hj hq => ?_⟩
  · by_cases e : j = i
    · subst e; rw [upd_same]; exact hok
    · rw [upd_other _ _ _ _ e]
      exact (h.ok j hj).far hz (fun q hq => hfar q (h.far j hj q hq).2.2 (h.far j hj q hq).2.1 (h.apart j i hj hi e q hq))
  · by_cases e : j = i
    · subst e
      rw [upd_same] at hq
      rcases hhas q hq with h' | h'
      · exact ⟨(h.far j hj q h').1, (h.far j hj q h').2.1, hlt q hq⟩
      · exact ⟨by omega, fun e => by have := hRlt q e; omega, hlt q hq⟩
    · rw [upd_other _ _ _ _ e] at hq
      exact ⟨(h.far j hj q hq).1, (h.far j hj q hq).2.1, by have := (h.far j hj q hq).2.2; omega⟩
  · by_cases e : a = i
    · subst e
      rw [upd_same] at hq
      rw [upd_other _ _ _ _ (fun e => hab e.symm)] at hq'
      rcases hhas q hq with h' | h'
      · exact h.apart a b ha hb' hab q h' hq'
      · have := (h.far b hb' q hq').2.2; omega
    · rw [upd_other _ _ _ _ e] at hq
      by_cases e' : b = i
      · subst e'
        rw [upd_same] at hq'
        rcases hhas q hq' with h' | h'
        · exact h.apart a b ha hb' hab q hq h'
        · have := (h.far a ha q hq).2.2; omega
      · rw [upd_other _ _ _ _ e'] at hq'
        exact h.apart a b ha hb' hab q hq hq'
  · by_cases e : j = i
    · subst e
      rw [upd_same] at hq
      rcases hhas 1 hq with h' | h'
      · exact h.p3 j hj h'
      · have := h.tab.lt; omega
    · rw [upd_other _ _ _ _ e] at hq
      exact h.p3 j hj hq
/-- a page more, in a new world -/
theorem KindAt.push {w w' : World} {bk m : Nat} {R R' : Value} {p : Nat → Pg α} {P : Pg α} (h : KindAt Z w bk m R p) (c1 : w'.cell? ⟨bk, Z.sl, none⟩ = some R') (cf : ∀ i, w'.frozen? ⟨bk, i, none⟩ = w.frozen? ⟨bk, i, none⟩)
    (hrow : w'.ownsRow 0 Z.T 5 R' (m + 1) (pages p m ++ P.cells)) (hR : ∀ q, R'.ownBlock = some q → q ≠ bk ∧ ¬ P.has q ∧ (R.ownBlock = some q ∨ w.heap.size ≤ q)) (hok : P.OK Z w') (hz : w.heap.size ≤ w'.heap.size)
    (hfar : ∀ i, i < m → ∀ q, (p i).has q → w'.heap[q]? = w.heap[q]?) (hP : ∀ q, P.has q → q ≠ bk ∧ q < w'.heap.size ∧ ∀ i, i < m → ¬ (p i).has q) (ht : w'.heap[1]? = w.heap[1]?) (hP3 : ¬ P.has 1) : KindAt Z w' bk (m + 1) R' (upd p m P) := by
  have hin : ∀ j, j < m + 1 → j ≠ m → j < m := fun j h1 h2 => by omega
  refine ⟨c1, fun i => (cf i).trans (h.fz i), ?_, fun e => (hR bk e).1 rfl, fun j hj => ?_, fun j hj q hq => ?_, fun a b ha hb' hab q hq hq' => ?_, h.tab.keep ht, h.b3, fun e => (hR 1 e).2.2.elim h.r3 (fun h' => by have := h.tab.lt; omega), fun j hj hq => ?_⟩
  · rw [pages, upd_same, pages_ext m (p' := p) (fun j hj => by rw [upd_other _ _ _ _ (by omega)])]
    exact hrow
  · by_cases e : j = m
    · subst e; rw [upd_same]; exact hok
    · rw [upd_other _ _ _ _ e]
      exact (h.ok j (hin j hj e)).far hz (fun q hq => hfar j (hin j hj e) q hq)
  · by_cases e : j = m
    · subst e
      rw [upd_same] at hq
      exact ⟨(hP q hq).1, fun e => (hR q e).2.1 hq, (hP q hq).2.1⟩
    · rw [upd_other _ _ _ _ e] at hq
      have hf := h.far j (hin j hj e) q hq
      exact ⟨hf.1, fun e => by rcases (hR q e).2.2 with h' | h'; exact hf.2.1 h'; omega, by omega⟩
  · by_cases e : a = m
    · subst e
      rw [upd_same] at hq
      rw [upd_other _ _ _ _ (fun e => hab e.symm)] at hq'
      exact (hP q hq).2.2 b (hin b hb' (fun e => hab e.symm)) hq'
    · rw [upd_other _ _ _ _ e] at hq
      by_cases e' : b = m
      · subst e'
        rw [upd_same] at hq'
        exact (hP q hq').2.2 a (hin a ha e) hq
      · rw [upd_other _ _ _ _ e'] at hq'
        exact h.apart a b (hin a ha e) (hin b hb' e') hab q hq hq'
  · by_cases e : j = m
    · subst e
      rw [upd_same] at hq
      exact hP3 hq
    · rw [upd_other _ _ _ _ e] at hq
      exact h.p3 j (hin j hj e) hq
/-- what of the world is not the book's stands -/
structure Rest (w w' : World) (R : Value) (p : Nat → Pg α) (m : Nat) : Prop where
  size : w.heap.size ≤ w'.heap.size
  os : w'.os = w.os
  tape : w'.tape = w.tape
  output : w'.output = w.output
  block : ∀ q, q < w.heap.size → R.ownBlock ≠ some q → (∀ i, i < m → ¬ (p i).has q) → w'.heap[q]? = w.heap[q]?
theorem Rest.refl (w : World) (R : Value) (p : Nat → Pg α) (m : Nat) : Rest w w R p m := ⟨Nat.le_refl _, rfl, rfl, rfl, fun _ _ _ _ => rfl⟩
theorem Rest.below {w w1 w' : World} {R : Value} {p : Nat → Pg α} {m : Nat} (h : Rest w w1 R p m) (hb : Below w1.heap.size w1 w') : Rest w w' R p m :=
  ⟨Nat.le_trans h.size hb.size, hb.os.trans h.os, hb.tape.trans h.tape, hb.output.trans h.output, fun q h1 h2 h3 => (hb.block q (Nat.lt_of_lt_of_le h1 h.size)).trans (h.block q h1 h2 h3)⟩
theorem Rest.trans {w w1 w' : World} {R : Value} {p p' : Nat → Pg α} {m : Nat} (h : Rest w w1 R p m) (h' : Rest w1 w' R p' m) (hhas : ∀ i, i < m → ∀ q, (p' i).has q → (p i).has q ∨ w.heap.size ≤ q) : Rest w w' R p m :=
  ⟨Nat.le_trans h.size h'.size, h'.os.trans h.os, h'.tape.trans h.tape, h'.output.trans h.output, fun q h1 h2 h3 => (h'.block q (Nat.lt_of_lt_of_le h1 h.size) h2 (fun i hi hq => by rcases hhas i hi q hq with h4 | h4; exact h3 i hi h4; omega)).trans (h.block q h1 h2 h3)⟩
end Go.Proofs.YtdeibifjiefapaaGreatDoor.Kg
