import Derived.Test.YtpeohbkigkfcgaaGreatDoorGAJ
import Derived.Test.YtpeohbkigkfcgaaGreatDoorGAH
import Derived.Deep.RegionHeld3
set_option linter.unusedVariables false
set_option linter.unusedSimpArgs false
set_option maxRecDepth 100000
set_option maxHeartbeats 16000000
namespace Go.Proofs.YtpeohbkigkfcgaaGreatDoor.Kt
open Go Go.ChangeShapes Go.WideShapes Go.ChangeAt Go.RowKit
attribute [local go_sem] setCell_drewN alloc_drewN
def Fp (R : Value) (p : Nat -> Pg) (m q : Nat) : Prop := R.ownBlock = some q \/ ∃ i, i < m /\ (p i).has q
theorem KindAt.fp {w : World} {bk m : Nat} {R : Value} {p : Nat -> Pg} (h : KindAt w bk m R p) {q : Nat} (hq : Fp R p m q) : q ≠ bk /\ q < w.heap.size := by
 rcases hq with hq | ⟨i, hi, hq⟩
 ·exact ⟨fun e => h.rb (by rw [<- e]; exact hq), (h.row.lt q hq).2⟩
 ·exact ⟨(h.far i hi q hq).1, (h.far i hi q hq).2.2⟩
theorem Went.fp {w w' : World} {bk m : Nat} {R : Value} {p p' : Nat -> Pg} (h : Went w w' bk m R p p') {q : Nat} (hq : Fp R p' m q) : Fp R p m q \/ w.heap.size <= q := by
 rcases hq with hq | ⟨i, hi, hq⟩
 ·exact .inl (.inl hq)
 ·exact (h.2.2 i hi q hq).imp (fun h' => .inr ⟨i, hi, h'⟩) id
theorem Went.far {w w' : World} {bk m : Nat} {R : Value} {p p' : Nat -> Pg} (h : Went w w' bk m R p p') {q : Nat} (hq : ¬ Fp R p m q) (hl : q < w.heap.size) : w'.heap[q]? = w.heap[q]? :=
 h.2.1.block q hl (fun e => hq (.inl e)) (fun i hi e => hq (.inr ⟨i, hi, e⟩))
structure Mine (w : World) (bk m : Nat) (R : Value) (p : Nat -> Pg) (L : Value) (n : Nat) (f : Nat -> ByteArray) : Prop where
 own : w.ownsRow 0 9 1 L n (scells f n)
 le : n <= 4096
 apart : ∀ q, L.ownBlock = some q -> q ≠ bk /\ ¬ Fp R p m q
 l3 : L.ownBlock ≠ some 0
def More (w w' : World) (bk m k : Nat) (R : Value) (p : Nat -> Pg) (L : Value) (s : Nat) : Prop :=
 ∃ R' P, P.s = s /\ KindAt w' bk (m + 1) R' (upd p m P) /\ w'.cell? ⟨bk, 6, none⟩ = some (.int .i64 ((k : Int) + 1)) /\ (∀ i, i ≠ 6 -> i ≠ 10 -> w'.cell? ⟨bk, i, none⟩ = w.cell? ⟨bk, i, none⟩) /\ (∀ q, Fp R' (upd p m P) (m + 1) q -> Fp R p m q \/ L.ownBlock = some q \/ w.heap.size <= q) /\
  w.heap.size <= w'.heap.size /\ w'.os = w.os /\ w'.tape = w.tape /\ w'.output = w.output /\ ∀ q, q < w.heap.size -> q ≠ bk -> ¬ Fp R p m q -> L.ownBlock ≠ some q -> w'.heap[q]? = w.heap[q]?
theorem fp_push {R R' L : Value} {p : Nat -> Pg} {P : Pg} {m z : Nat} (hR : ∀ q, R'.ownBlock = some q -> R.ownBlock = some q \/ z <= q) (hP : ∀ q, P.has q -> L.ownBlock = some q \/ z <= q) : ∀ q, Fp R' (upd p m P) (m + 1) q -> Fp R p m q \/ L.ownBlock = some q \/ z <= q := by
 rintro q (hq | ⟨i, hi, hq⟩)
 ·exact (hR q hq).imp .inl .inr
 ·by_cases e : i = m
  ·subst e
   rw [upd_same] at hq
   exact .inr (hP q hq)
  ·rw [upd_other _ _ _ _ e] at hq
   exact .inl (.inr ⟨i, by omega, hq⟩)
theorem more_keep {w w' : World} {bk m k n : Nat} {R L : Value} {p : Nat -> Pg} {f : Nat -> ByteArray} (h : KindAt w bk m R p) (hL : Mine w bk m R p L n f) (hk : k < 900) (ho : KeepOut w bk k m 0 L n f R (pages p m) w') : More w w' bk m k R p L 0 := by
 obtain ⟨g6, c6, gw, cw, c0, c1, hrow, hW, n1, n2, n3, ci, cf, hz, os, tp, ou, hblk⟩ := ho
 have hbk := h.lt
 have hgw := hW.lt gw rfl
 have hLl : ∀ q, L.ownBlock = some q -> q < w.heap.size := fun q hq => (hL.own.lt q hq).2
 have hRl : ∀ q, R.ownBlock = some q -> q < w.heap.size := fun q hq => (h.row.lt q hq).2
 have hLR : ∀ q, L.ownBlock = some q -> R.ownBlock ≠ some q := fun q hq e => (hL.apart q hq).2 (.inl e)
 have hhas : ∀ q, (⟨L, n, .slice none 0 0, .slice (some ⟨gw, 0, none⟩) n cw, k + 1, 0, f⟩ : Pg).has q -> L.ownBlock = some q \/ q = gw := by
  intro q hq
  rcases hq with hq | hq | hq
  ·exact .inl hq
  ·cases hq
  ·injection hq with hq; exact .inr hq.symm
 have hg6 : ∀ q, L.ownBlock = some q -> g6 ≠ q := by
  intro q hq e
  subst e
  rcases n3 with h' | h'
  ·exact hLR g6 hq h'.symm
  ·have := hLl g6 hq; omega
 refine ⟨_, ⟨L, n, .slice none 0 0, .slice (some ⟨gw, 0, none⟩) n cw, k + 1, 0, f⟩, rfl, h.push c1 cf ?_ ?_ ?_ hz ?_ ?_ (hblk 0 h.tab.lt (fun e => h.b3 e.symm) h.r3) (fun h' => (hhas 0 h').elim hL.l3 (fun e => by have := h.tab.lt; omega)), c0, ci, fp_push ?_ ?_, hz, os, tp, ou, fun q h1 h2 h3 _ => hblk q h1 h2 (fun e => h3 (.inl e))⟩
 ·have e : (⟨L, n, .slice none 0 0, .slice (some ⟨gw, 0, none⟩) n cw, k + 1, 0, f⟩ : Pg).cells = [L, .slice none 0 0, .slice (some ⟨gw, 0, none⟩) n cw, .int .i64 ((k : Int) + 1), .bool false] := by simp [Pg.cells]
  rw [e]
  exact hrow
 ·intro q hq
  injection hq with hq
  have hq : g6 = q := hq
  subst hq
  refine ⟨n1, fun hh => ?_, n3.imp Eq.symm id⟩
  rcases hhas g6 hh with h' | h'
  ·exact hg6 g6 h' rfl
  ·exact n2 h'
 ·refine ⟨hL.le, by show k + 1 < 1000; omega, fun _ => ⟨?_, rfl, hW.mono (Nat.zero_le _), fun q hq e => ?_, gw, cw, rfl⟩, fun e => by simp at e, fun e => by simp at e, by simp⟩
  ·exact row_far hL.own (fun q hq => hblk q (hLl q hq) (hL.apart q hq).1 (hLR q hq))
  ·injection e with e
   have e : gw = q := e
   have := hLl q hq
   omega
 ·intro i hi q hq
  exact hblk q (h.far i hi q hq).2.2 (h.far i hi q hq).1 (h.far i hi q hq).2.1
 ·intro q hq
  rcases hhas q hq with h' | h'
  ·exact ⟨(hL.apart q h').1, by have := hLl q h'; omega, fun i hi e => (hL.apart q h').2 (.inr ⟨i, hi, e⟩)⟩
  ·subst h'
   exact ⟨by omega, hgw.2, fun i hi hq => by have := (h.far i hi q hq).2.2; omega⟩
 ·intro q hq
  injection hq with hq
  have hq : g6 = q := hq
  subst hq
  exact n3.imp Eq.symm id
 ·intro q hq
  exact (hhas q hq).imp id (fun e => by omega)
theorem keep_more {w : World} {bk m k n : Nat} {R L : Value} {p : Nat -> Pg} {f : Nat -> ByteArray} (h : KindAt w bk m R p) (c0 : w.cell? ⟨bk, 6, none⟩ = some (.int .i64 (k : Int))) (hL : Mine w bk m R p L n f) (hk : k < 900) (hm : m < 96) :
  Calls Tryz.prog 118 #[.pointer (some ⟨bk, 6, none⟩), L] w fun e w' => e = .returned (.tuple #[]) /\ More w w' bk m k R p L 0 := by
 obtain ⟨pa, pc, rfl, _⟩ := book_row h
 have hpb : ∀ q, (Value.slice pa m pc).ownBlock = some q -> q ≠ bk := fun q hq e => h.rb (by rw [<- e]; exact hq)
 rcases LShows.of_own hL.own with ⟨hn0, hL0⟩ | ⟨gb, cap, hL0, hgl, hc⟩
 ·subst hL0 hn0
  refine (keep_none none 0 (fun _ => rfl) bk k 0 f hk w m pc pa (pages p m) (Nat.zero_le _) hm c0 h.c1 (h.fz 6) (h.fz 10) h.row hpb).mono ?_
  rintro e w' ⟨rfl, ho⟩
  exact ⟨rfl, more_keep h hL hk ho⟩
 ·subst hL0
  by_cases hn : 0 < n
  ·refine (keep_bytes bk k n cap gb 0 f hk hL.le hn w m pc pa (pages p m) (Nat.zero_le _) hm c0 h.c1 (h.fz 6) (h.fz 10) hgl hc h.row hpb).mono ?_
   rintro e w' ⟨rfl, ho⟩
   exact ⟨rfl, more_keep h hL hk ho⟩
  ·have hn : n = 0 := by omega
   subst hn
   refine (keep_none (some ⟨gb, 0, none⟩) cap (fun e => by cases e) bk k 0 f hk w m pc pa (pages p m) (Nat.zero_le _) hm c0 h.c1 (h.fz 6) (h.fz 10) h.row hpb).mono ?_
   rintro e w' ⟨rfl, ho⟩
   exact ⟨rfl, more_keep h hL hk ho⟩
theorem more_write {w w' : World} {bk m k n gb : Nat} {R L : Value} {p : Nat -> Pg} {f : Nat -> ByteArray} (h : KindAt w bk m R p) (hL : Mine w bk m R p L n f) (hk : k < 900) (ho : WriteOut w bk k m 0 0 gb n L R (pages p m) w') (hgb : (n = 0 /\ L = .slice none 0 0 /\ gb = w.heap.size) \/ ∃ cap, L = .slice (some ⟨gb, 0, none⟩) n cap /\ gb < w.heap.size) : More w w' bk m k R p L 2 := by
 obtain ⟨g6, c6, v, c0, c1, hrow, hV, hlst, n1, n2, n3, n4, n5, n6, ci, cf, hz, os, tp, ou, hblk⟩ := ho
 have hbk := h.lt
 have hLl : ∀ q, L.ownBlock = some q -> q < w.heap.size := fun q hq => (hL.own.lt q hq).2
 have hLg : ∀ q, L.ownBlock = some q -> q = gb := by
  intro q hq
  rcases hgb with ⟨_, rfl, _⟩ | ⟨cap, rfl, _⟩
  ·cases hq
  ·injection hq with hq; exact hq.symm
 have hgL : ∀ q, q = gb -> L.ownBlock = some q \/ w.heap.size <= q := by
  rintro q rfl
  rcases hgb with ⟨_, rfl, h'⟩ | ⟨cap, rfl, _⟩
  ·exact .inr (by omega)
  ·exact .inl rfl
 have hvL : ∀ q, v.ownBlock = some q -> L.ownBlock = some q \/ w.heap.size <= q := by
  intro q hq
  rcases n5 with h' | h'
  ·rw [h'] at hq
   injection hq with hq
   exact hgL q hq.symm
  ·exact .inr (h' q hq)
 have hhas : ∀ q, (⟨L, n, v, .slice none 0 0, k + 1, 2, f⟩ : Pg).has q -> L.ownBlock = some q \/ w.heap.size <= q := by
  intro q hq
  rcases hq with hq | hq | hq
  ·exact .inl hq
  ·exact hvL q hq
  ·cases hq
 refine ⟨_, ⟨L, n, v, .slice none 0 0, k + 1, 2, f⟩, rfl, h.push c1 cf ?_ ?_ ?_ hz ?_ ?_ (hblk 0 h.tab.lt (fun e => h.b3 e.symm) (fun e => (hgL 0 e).elim hL.l3 (fun h' => by have := h.tab.lt; omega)) h.r3) (fun h' => (hhas 0 h').elim hL.l3 (fun e => by have := h.tab.lt; omega)), c0, ci, fp_push ?_ hhas, hz, os, tp, ou, fun q h1 h2 h3 h4 => hblk q h1 h2 (fun e => by rcases hgL q e with h' | h'; exact h4 h'; omega) (fun e => h3 (.inl e))⟩
 ·have e : (⟨L, n, v, .slice none 0 0, k + 1, 2, f⟩ : Pg).cells = [L, v, .slice none 0 0, .int .i64 ((k : Int) + 1), .bool true] := by simp [Pg.cells]
  rw [e]
  exact hrow
 ·intro q hq
  injection hq with hq
  have hq : g6 = q := hq
  subst hq
  refine ⟨n1, fun hh => ?_, n6.imp Eq.symm id⟩
  rcases hh with hh | hh | hh
  ·exact n2 (hLg g6 hh)
  ·exact n3 hh
  ·cases hh
 ·refine ⟨hL.le, by show k + 1 < 1000; omega, fun e => by simp at e, fun e => by simp at e, fun _ => ⟨?_, hV⟩, by simp⟩
  rcases hgb with ⟨h1, h2, _⟩ | ⟨cap, h1, h2⟩
  ·exact .inl ⟨h1, h2⟩
  ·exact .inr ⟨gb, cap, h1, by omega, hlst⟩
 ·intro i hi q hq
  have hf := h.far i hi q hq
  exact hblk q hf.2.2 hf.1 (fun e => by rcases hgL q e with h' | h'; exact (hL.apart q h').2 (.inr ⟨i, hi, hq⟩); omega) hf.2.1
 ·intro q hq
  rcases hhas q hq with h' | h'
  ·exact ⟨(hL.apart q h').1, by have := hLl q h'; omega, fun i hi e => (hL.apart q h').2 (.inr ⟨i, hi, e⟩)⟩
  ·refine ⟨by omega, ?_, fun i hi hq => by have := (h.far i hi q hq).2.2; omega⟩
   rcases hq with hq | hq | hq
   ·have := hLl q hq; omega
   ·exact (hV.lt q hq).2
   ·cases hq
 ·intro q hq
  injection hq with hq
  have hq : g6 = q := hq
  subst hq
  exact n6.imp Eq.symm id
theorem write_more {w : World} {bk m k n : Nat} {R L : Value} {p : Nat -> Pg} {f : Nat -> ByteArray} (h : KindAt w bk m R p) (c0 : w.cell? ⟨bk, 6, none⟩ = some (.int .i64 (k : Int))) (hL : Mine w bk m R p L n f) (hk : k < 900) (hm : m < 96) :
  Calls Tryz.prog 119 #[.pointer (some ⟨bk, 6, none⟩), L] w fun e w' => e = .returned (.tuple #[]) /\ More w w' bk m k R p L 2 := by
 obtain ⟨pa, pc, rfl, _⟩ := book_row h
 have hpb : ∀ q, (Value.slice pa m pc).ownBlock = some q -> q ≠ bk := fun q hq e => h.rb (by rw [<- e]; exact hq)
 rcases LShows.of_own hL.own with ⟨hn0, hL0⟩ | ⟨gb, cap, hL0, hgl, hc⟩
 ·subst hL0 hn0
  refine (write_none bk k 0 0 hk w m pc pa (pages p m) (Nat.zero_le _) (Nat.zero_le _) hm c0 h.c1 (h.fz 6) (h.fz 10) h.tab h.b3 h.row hpb).mono ?_
  rintro e w' ⟨rfl, ho⟩
  exact ⟨rfl, more_write h hL hk ho (.inl ⟨rfl, rfl, rfl⟩)⟩
 ·subst hL0
  have hap := hL.apart gb rfl
  refine (write_some bk k n cap gb 0 0 f hk hL.le w m pc pa (pages p m) (Nat.zero_le _) (Nat.zero_le _) hm c0 h.c1 (h.fz 6) (h.fz 10) h.tab ⟨h.b3, fun e => hL.l3 (by rw [e]; rfl)⟩ hgl hap.1 hL.own (fun j _ => hL.own.frozenAt j) h.row (fun q hq => ⟨hpb q hq, fun e => hap.2 (.inl (by rw [<- e]; exact hq))⟩)).mono ?_
  rintro e w' ⟨rfl, ho⟩
  exact ⟨rfl, more_write h hL hk ho (.inr ⟨cap, rfl, hgl⟩)⟩
theorem keep_full (bk m pc : Nat) (pa : Option Addr) (hm : 96 <= m) (w : World) (hk1 : w.cell? ⟨bk, 10, none⟩ = some (.slice pa m pc)) (L : Value) : Calls Tryz.prog 118 #[.pointer (some ⟨bk, 6, none⟩), L] w fun e w' => e = .returned (.tuple #[]) /\ w' = w := by
 have hI1 : ¬ (m : Int) < 96 := by omega
 go_enter Tryz.func118, Tryz.ntmps118
 go_wp2_with fail
 go_end0
 exact ⟨rfl, rfl⟩
theorem write_full (bk m pc : Nat) (pa : Option Addr) (hm : 96 <= m) (w : World) (hk1 : w.cell? ⟨bk, 10, none⟩ = some (.slice pa m pc)) (L : Value) : Calls Tryz.prog 119 #[.pointer (some ⟨bk, 6, none⟩), L] w fun e w' => e = .returned (.tuple #[]) /\ w' = w := by
 have hI1 : ¬ (m : Int) < 96 := by omega
 go_enter Tryz.func119, Tryz.ntmps119
 go_wp2_with fail
 go_end0
 exact ⟨rfl, rfl⟩
end Go.Proofs.YtpeohbkigkfcgaaGreatDoor.Kt
namespace Go.Proofs.YtpeohbkigkfcgaaGreatDoor.Kf
open Go Go.ChangeShapes Go.WideShapes Go.ChangeAt Go.RowKit
open Go.Proofs.YtpeohbkigkfcgaaGreatDoor.Kt (Pw mkS text_any Grn)
attribute [local go_sem] setCell_drewN alloc_drewN
structure FE where
 nm : ByteArray
 p : Option Addr
 m : Nat
 c : Nat
 sy : Int
def FE.cells (f : FE) : List Value := [.string f.nm, .slice f.p f.m f.c, .int .i64 f.sy]
def FE.val (f : FE) : Value := .agg #[.string f.nm, .slice f.p f.m f.c, .int .i64 f.sy]
def fcells (F : Nat -> FE) : Nat -> List Value
 | 0 => []
 | n + 1 => fcells F n ++ (F n).cells
theorem fcells_len (F : Nat -> FE) : ∀ n, (fcells F n).length = n * 3
 | 0 => rfl
 | n + 1 => by simp [fcells, fcells_len F n, FE.cells]; omega
theorem fcells_get (F : Nat -> FE) (c : Nat) (hc : c < 3) : ∀ n i, i < n -> (fcells F n)[i * 3 + c]? = (F i).cells[c]?
 | 0, i, h => by omega
 | n + 1, i, h => by
  by_cases e : i = n
  ·subst e
   rw [fcells, List.getElem?_append_right (by rw [fcells_len]; omega), fcells_len]
   congr 1
   omega
  ·rw [fcells, List.getElem?_append_left (by rw [fcells_len]; omega)]
   exact fcells_get F c hc n i (by omega)
theorem fcells_ext {F G : Nat -> FE} : ∀ n, (∀ i, i < n -> F i = G i) -> fcells F n = fcells G n
 | 0, _ => rfl
 | n + 1, h => by rw [fcells, fcells, fcells_ext n (fun i hi => h i (by omega)), h n (by omega)]
theorem fcells_one (F : Nat -> FE) : ∀ n, ∀ u ∈ fcells F n, u.oneCell' = true
 | 0, u, hu => by cases hu
 | n + 1, u, hu => by
  rw [fcells, List.mem_append] at hu
  rcases hu with hu | hu
  ·exact fcells_one F n u hu
  ·simp only [FE.cells, List.mem_cons, List.not_mem_nil, or_false] at hu
   rcases hu with rfl | rfl | rfl <;> rfl
def mkF (id k : Nat) : FE := ⟨mkS id k, none, 0, 0, -(k : Int) - 1⟩
theorem ret_mark {tmps : Array Value} {w : World} {b : Nat} {nm : ByteArray} {p : Option Addr} {m c : Nat} {y : Int} (hp : tmps[4]?.getD undef = .pointer (some ⟨b, 0, none⟩)) (h0 : w.cell? ⟨b, 0, none⟩ = some (.string nm)) (h1 : w.cell? ⟨b, 1, none⟩ = some (.slice p m c)) (h2 : w.cell? ⟨b, 2, none⟩ = some (.int .i64 y)) :
  (results Tryz.f200 tmps).run Tryz.prog w = .ok (.agg #[.string nm, .slice p m c, .int .i64 y]) w := by
 simp [results, hp, asAddr, go_sem, h0, h1, h2]
theorem mark_any (id k : Nat) (hid : id < 1000000) (hk : k < 1000000) (w : World) (h : Pw w) : Calls Tryz.prog 200 #[.int .i64 (id : Int), .int .i64 (k : Int)] w fun e w' => e = .returned (mkF id k).val /\ Below w.heap.size w w' := by
 obtain ⟨w1, hw1⟩ : ∃ w1, w1 = w.alloc (.cells #[.string ⟨#[]⟩, .slice none 0 0, .int .i64 0] 82) := ⟨_, rfl⟩
 have b1 : Below w.heap.size w w1 := by rw [hw1]; exact bal (Below.refl _ _) _
 have z1 : w1.heap.size = w.heap.size + 1 := by rw [hw1]; simp
 have d := hide (text_any id k hid hk w1 (h.below b1))
 have hR1 : w1.heap[w.heap.size]? = some (.cells #[.string ⟨#[]⟩, .slice none 0 0, .int .i64 0] 82) := by rw [hw1]; exact heap_alloc_new w _
 have HR := hide hR1
 have H1 := hide hw1
 have B1 := hide b1
 have s0 : -9223372036854775808 <= -(k : Int) := by omega
 have s1 : -(k : Int) <= 9223372036854775807 := by omega
 have s2 : -9223372036854775808 <= -(k : Int) - 1 := by omega
 have s3 : -(k : Int) - 1 <= 9223372036854775807 := by omega
 clear h hw1 b1 hR1
 go_enter Tryz.func200, Tryz.ntmps200
 go_wp2_with fail
 rw [<- uh H1]
 refine (uh d).mono ?_
 rintro e w2 ⟨rfl, hg⟩
 have hb2 := hg.below
 have z2 : w1.heap.size <= w2.heap.size := hb2.size
 have hR2 := (hb2.block w.heap.size (by omega)).trans (uh HR)
 have q0 := cell_of_own hR2 0
 have q1 := cell_of_own hR2 1
 have q2 := cell_of_own hR2 2
 have f0 := frozen_of_own hR2 0
 have f1 := frozen_of_own hR2 1
 have f2 := frozen_of_own hR2 2
 have B2 : Hid (Below w.heap.size w w2) := (uh B1).trans (hb2.mono (uh B1).size)
 clear hg hb2 hR2
 go_wp2_with fail
 refine bodyPost_ret (ret_mark (b := w.heap.size) (nm := mkS id k) (p := none) (m := 0) (c := 0) (y := -(k : Int) - 1) (by rfl) (by go_simp) (by go_simp) (by go_simp)) rfl ?_
 exact ⟨rfl, (((uh B2).setCell (p := ⟨w.heap.size, 0, none⟩) (Nat.le_refl _) _).setCell (p := ⟨w.heap.size, 1, none⟩) (Nat.le_refl _) _).setCell (p := ⟨w.heap.size, 2, none⟩) (Nat.le_refl _) _⟩
theorem sameF (a b : FE) (hn : a.nm = b.nm) (hm : a.m = b.m) (hs : a.sy = b.sy) (w : World) : Calls Tryz.prog 199 #[a.val, b.val] w fun e w' => e = .returned (.bool true) /\ Below w.heap.size w w' := by
 obtain ⟨nm, p, m, c, sy⟩ := a
 obtain ⟨nm', p', m', c', sy'⟩ := b
 simp only at hn hm hs
 subst hn hm hs
 have hE : (nm.toList == nm.toList) = true := by simp
 have hS : (sy == sy) = true := by simp
 have hM : ((m : Int) == (m : Int)) = true := by simp
 simp only [FE.val]
 go_enter Tryz.func199, Tryz.ntmps199
 go_wp2_with fail
 go_ret
 exact ⟨by simp, bal (bal (Below.refl _ _) _) _⟩
def mixF (id : Nat) (F : Nat -> FE) (k : Nat) : Nat -> FE := fun i => if i < k then mkF id i else F i
structure FillAt (w wr : World) (gb n id : Nat) (F : Nat -> FE) (k : Nat) : Prop where
 gr : w.grownBy wr (some gb)
 lt : gb < wr.heap.size
 cells : ∀ j, j < n -> ∀ c, c < 3 -> wr.cell? ⟨gb, j * 3 + c, none⟩ = (mixF id F k j).cells[c]?
 fz : ∀ j, wr.frozen? ⟨gb, j, none⟩ = false
 obj : ∀ S, (∃ cur, w.heap[gb]? = some (.cells cur 82 (0, 0)) /\ cur.size = S) -> ∃ cur, wr.heap[gb]? = some (.cells cur 82 (0, 0)) /\ cur.size = S
theorem obj_set {w : World} {gb k S : Nat} {v : Value} {t : TypeId} (h : ∃ cur, w.heap[gb]? = some (.cells cur t (0, 0)) /\ cur.size = S) : ∃ cur, (w.setCell ⟨gb, k, none⟩ v).heap[gb]? = some (.cells cur t (0, 0)) /\ cur.size = S := by
 obtain ⟨cur, h1, h2⟩ := h
 refine ⟨cur.setIfInBounds k v, ?_, by simpa using h2⟩
 simp [World.setCell, Array.getElem?_modify, h1]
theorem FillAt.below {w wr w2 : World} {gb n id k : Nat} {F : Nat -> FE} (h : FillAt w wr gb n id F k) (hb : Below wr.heap.size wr w2) : FillAt w w2 gb n id F k :=
 ⟨h.gr.trans ⟨hb.os, hb.tape, hb.output, hb.size, fun i hi _ => hb.block i hi⟩, Nat.lt_of_lt_of_le h.lt hb.size, fun j hj c hc => (World.cell?_of_block (a := ⟨gb, j * 3 + c, none⟩) (hb.block gb h.lt)).trans (h.cells j hj c hc), fun j => keepF hb h.lt (h.fz j), fun S hS => by rw [hb.block gb h.lt]; exact h.obj S hS⟩
theorem grown_set (w : World) (gb k : Nat) (v : Value) : w.grownBy (w.setCell ⟨gb, k, none⟩ v) (some gb) := ⟨rfl, rfl, rfl, by simp [World.setCell], fun i hi hne => Below.heap_setCell _ _ _ _ (fun e => hne (by rw [e]))⟩
theorem cell_set {w : World} {gb k j : Nat} {v u : Value} (h : w.cell? ⟨gb, j, none⟩ = some u) (hne : j ≠ k) : (w.setCell ⟨gb, k, none⟩ v).cell? ⟨gb, j, none⟩ = some u := (World.cell?_setCell_other _ _ _ _ (by intro h'; injection h' with _ h' _; exact hne h'.symm)).trans h
theorem cell_set' {w : World} {gb k j : Nat} {v : Value} (hne : j ≠ k) : (w.setCell ⟨gb, k, none⟩ v).cell? ⟨gb, j, none⟩ = w.cell? ⟨gb, j, none⟩ := World.cell?_setCell_other _ _ _ _ (by intro h'; injection h' with _ h' _; exact hne h'.symm)
theorem FillAt.step {w wr : World} {gb n id k : Nat} {F : Nat -> FE} (h : FillAt w wr gb n id F k) (hk : k < n) : FillAt w (((wr.setCell ⟨gb, k * 3, none⟩ (.string (mkS id k))).setCell ⟨gb, k * 3 + 1, none⟩ (.slice none 0 0)).setCell ⟨gb, k * 3 + 2, none⟩ (.int .i64 (-(k : Int) - 1))) gb n id F (k + 1) := by
 have e0 := h.cells k hk 0 (by omega)
 have e1 := h.cells k hk 1 (by omega)
 have e2 := h.cells k hk 2 (by omega)
 obtain ⟨u0, e0⟩ : ∃ u, wr.cell? ⟨gb, k * 3, none⟩ = some u := ⟨_, e0⟩
 obtain ⟨u1, e1⟩ : ∃ u, wr.cell? ⟨gb, k * 3 + 1, none⟩ = some u := ⟨_, e1⟩
 obtain ⟨u2, e2⟩ : ∃ u, wr.cell? ⟨gb, k * 3 + 2, none⟩ = some u := ⟨_, e2⟩
 refine ⟨((h.gr.trans (grown_set _ _ _ _)).trans (grown_set _ _ _ _)).trans (grown_set _ _ _ _), by simpa using h.lt, fun j hj c hc => ?_, fun j => by simpa using h.fz j, fun S hS => obj_set (obj_set (obj_set (h.obj S hS)))⟩
 by_cases e : j = k
 ·subst e
  have hm : mixF id F (j + 1) j = mkF id j := by unfold mixF; rw [if_pos (by omega)]
  rw [hm]
  match c, hc with
  | 0, _ =>
   rw [show j * 3 + 0 = j * 3 from rfl, cell_set' (by omega), cell_set' (by omega), World.cell?_setCell_same _ _ _ e0]
   rfl
  | 1, _ =>
   rw [cell_set' (by omega), World.cell?_setCell_same _ _ _ (cell_set e1 (by omega))]
   rfl
  | 2, _ =>
   rw [World.cell?_setCell_same _ _ _ (cell_set (cell_set e2 (by omega)) (by omega))]
   rfl
 ·rw [cell_set' (by omega), cell_set' (by omega), cell_set' (by omega), h.cells j hj c hc]
  have : j < k + 1 ↔ j < k := by omega
  simp only [mixF, this]
theorem FillAt.drew {w wr : World} {gb n id k : Nat} {F : Nat -> FE} (h : FillAt w wr gb n id F k) : FillAt w wr.drew gb n id F k :=
 ⟨⟨h.gr.os, h.gr.tape, h.gr.output, h.gr.size, h.gr.block⟩, h.lt, h.cells, h.fz, h.obj⟩
theorem fill_some (pg po gb n cap id : Nat) (F : Nat -> FE) (hn : n <= 64) (hid : id < 1000) (w : World) (hne : pg ≠ gb) (hL : w.cell? ⟨pg, po, none⟩ = some (.slice (some ⟨gb, 0, none⟩) n cap)) (hI : w.cell? ⟨pg, po + 3, none⟩ = some (.int .i64 (id : Int))) (hD : ∃ v, w.cell? ⟨pg, po + 4, none⟩ = some v) (hDf : w.frozen? ⟨pg, po + 4, none⟩ = false) (hc : ∀ k, k < n -> ∀ c, c < 3 -> w.cell? ⟨gb, k * 3 + c, none⟩ = (F k).cells[c]?) (hfz : ∀ j, w.frozen? ⟨gb, j, none⟩ = false) (hlt : gb < w.heap.size) (hP : Pw w) (hg3 : gb ≠ 0) :
  Calls Tryz.prog 171 #[.pointer (some ⟨pg, po, none⟩)] w fun e w' => e = .returned (.tuple #[]) /\ ∃ w1, FillAt w w1 gb n id F n /\ w' = w1.setCell ⟨pg, po + 4, none⟩ (.bool true) := by
 have HF0 : Hid (FillAt w w gb n id F 0) := ⟨⟨rfl, rfl, rfl, Nat.le_refl _, fun _ _ _ => rfl⟩, hlt, fun j hj c hc' => by rw [hc j hj c hc']; simp [mixF], hfz, fun _ h => h⟩
 have hpg : pg < w.heap.size := World.block_lt_of_cell? w ⟨pg, po, none⟩ hL
 have HL := hide hL
 have HI := hide hI
 have HD := hide hD
 have HDF := hide hDf
 have HPW := hide hP
 clear hL hI hD hDf hc hfz hP
 go_enter Tryz.func171, Tryz.ntmps171
 go_wp2_with fail
 go_loopw [2] (fun i wr => ∃ k : Nat, k <= n /\ i = .int .i64 (k : Int) /\ FillAt w wr gb n id F k) (fun i _ => n - (intOf i).toNat)
 case atStart => exact ⟨0, by omega, rfl, uh HF0⟩
 case round =>
  obtain ⟨k, hk, rfl, hs⟩ := hrel
  have HS := hide hs
  have l1 : wr.cell? ⟨pg, po, none⟩ = some (.slice (some ⟨gb, 0, none⟩) n cap) := (hs.gr.cell_far ⟨pg, po, none⟩ hpg (by simpa using hne)).trans (uh HL)
  have l2 : wr.cell? ⟨pg, po + 3, none⟩ = some (.int .i64 (id : Int)) := (hs.gr.cell_far ⟨pg, po + 3, none⟩ hpg (by simpa using hne)).trans (uh HI)
  clear HF0
  by_cases hlk : k < n
  ·obtain ⟨u0, c0⟩ : ∃ u, wr.cell? ⟨gb, k * 3, none⟩ = some u := ⟨_, hs.cells k hlk 0 (by omega)⟩
   obtain ⟨u1, c1⟩ : ∃ u, wr.cell? ⟨gb, k * 3 + 1, none⟩ = some u := ⟨_, hs.cells k hlk 1 (by omega)⟩
   obtain ⟨u2, c2⟩ : ∃ u, wr.cell? ⟨gb, k * 3 + 2, none⟩ = some u := ⟨_, hs.cells k hlk 2 (by omega)⟩
   have z0 := hs.fz (k * 3)
   have z1 := hs.fz (k * 3 + 1)
   have z2 := hs.fz (k * 3 + 2)
   have hpr : pg < wr.heap.size := Nat.lt_of_lt_of_le hpg hs.gr.size
   have hgr' : gb < wr.heap.size := hs.lt
   have hI1 : (k : Int) < (n : Int) := by omega
   have hI0 : (0 : Int) <= (k : Int) := by omega
   have hmk := hide (mark_any id k (by omega) (by omega) wr.drew ((uh HPW).keep (hs.gr.block 0 (uh HPW).lt (by simpa using fun e => hg3 e.symm))))
   clear hs
   have hne' : gb ≠ pg := fun e => hne e.symm
   go_wp2_with fail
   go_region_held3 (fun W => W.cell? ⟨pg, po, none⟩ = some (.slice (some ⟨gb, 0, none⟩) n cap) /\ W.cell? ⟨pg, po + 3, none⟩ = some (.int .i64 (id : Int))) (first | (refine ⟨?_, ?_⟩ <;> with_reducible assumption) | go_keep) ((go_at_call 200; refine (uh hmk).mono ?_; rintro e w2 ⟨rfl, hb⟩; have q1 := keep1 hb hpr l1; have q2 := keep1 hb hpr l2; have q3 := keep1 hb hgr' c0; have q4 := keep1 hb hgr' c1; have q5 := keep1 hb hgr' c2; have y0 := keepF hb hgr' z0; have y1 := keepF hb hgr' z1; have y2 := keepF hb hgr' z2; have q4a := fun v => cell_set (v := v) q4 (show k * 3 + 1 ≠ k * 3 by omega); have q5a := fun v v' => cell_set (v := v') (cell_set (v := v) q5 (show k * 3 + 2 ≠ k * 3 by omega)) (show k * 3 + 2 ≠ k * 3 + 1 by omega); have B2 := hide hb; clear hb; simp only [FE.val, mkF]))
   all_goals
    go_wp2_with fail
    refine ⟨⟨k + 1, by omega, by go_num, ((uh HS).drew.below (uh B2)).step hlk⟩, by simp [intOf]; omega⟩
  ·have hkn : k = n := by omega
   subst hkn
   have hI1 : ¬ (k : Int) < (k : Int) := by omega
   obtain ⟨vd, hvd⟩ := uh HD
   have l3 : wr.cell? ⟨pg, po + 4, none⟩ = some vd := (hs.gr.cell_far ⟨pg, po + 4, none⟩ hpg (by simpa using hne)).trans hvd
   have l4 : wr.frozen? ⟨pg, po + 4, none⟩ = false := (hs.gr.frozen_far ⟨pg, po + 4, none⟩ hpg (by simpa using hne)).trans (uh HDF)
   clear hs hvd
   go_wp2_with fail
   go_end0
   exact ⟨rfl, wr, uh HS, rfl⟩
theorem fill_none (pg po : Nat) (w : World) (hL : w.cell? ⟨pg, po, none⟩ = some (.slice none 0 0)) (hD : ∃ v, w.cell? ⟨pg, po + 4, none⟩ = some v) (hDf : w.frozen? ⟨pg, po + 4, none⟩ = false) :
  Calls Tryz.prog 171 #[.pointer (some ⟨pg, po, none⟩)] w fun e w' => e = .returned (.tuple #[]) /\ w' = w.setCell ⟨pg, po + 4, none⟩ (.bool true) := by
 obtain ⟨vd, hvd⟩ := hD
 go_enter Tryz.func171, Tryz.ntmps171
 go_wp2_with fail
 go_loopw [2] (fun i wr => i = .int .i64 0 /\ wr = w) (fun i _ => 0)
 case atStart => exact ⟨rfl, rfl⟩
 case round =>
  obtain ⟨rfl, rfl⟩ := hrel
  go_wp2_with fail
  go_end0
  exact ⟨rfl, rfl⟩
end Go.Proofs.YtpeohbkigkfcgaaGreatDoor.Kf
namespace Go.Proofs.YtpeohbkigkfcgaaGreatDoor.Kf
open Go Go.ChangeShapes Go.WideShapes Go.ChangeAt Go.RowKit Go.Sort
open Go.Proofs.YtpeohbkigkfcgaaGreatDoor.Kt (Pw mkS text_any Grn)
attribute [local go_sem] setCell_drewN alloc_drewN
structure PgAt (w : World) (b : Nat) (L G S : Value) (id : Nat) (d : Bool) : Prop where
 a0 : w.cell? ⟨b, 0, none⟩ = some L
 a1 : w.cell? ⟨b, 1, none⟩ = some G
 a2 : w.cell? ⟨b, 2, none⟩ = some S
 a3 : w.cell? ⟨b, 3, none⟩ = some (.int .i64 (id : Int))
 a4 : w.cell? ⟨b, 4, none⟩ = some (.bool d)
theorem PgAt.new (w : World) (L G S : Value) (id : Nat) (d : Bool) : PgAt (w.alloc (.cells #[L, G, S, .int .i64 (id : Int), .bool d] 163)) w.heap.size L G S id d := ⟨by simp, by simp, by simp, by simp, by simp⟩
theorem PgAt.below {w w' : World} {b id : Nat} {L G S : Value} {d : Bool} (h : PgAt w b L G S id d) (hb : Below w.heap.size w w') : PgAt w' b L G S id d := by
 have hlt : b < w.heap.size := World.block_lt_of_cell? w ⟨b, 0, none⟩ h.a0
 exact ⟨keep1 hb hlt h.a0, keep1 hb hlt h.a1, keep1 hb hlt h.a2, keep1 hb hlt h.a3, keep1 hb hlt h.a4⟩
theorem shows_kept (F : Nat -> FE) (gb gc n cb cc id : Nat) (hn : n <= 64) (w : World) (hb : 0 < n -> gb < w.heap.size) (hb' : 0 < n -> gc < w.heap.size) (hc : Hid (∀ k, k < n -> ∀ c, c < 3 -> w.cell? ⟨gb, k * 3 + c, none⟩ = (F k).cells[c]?)) (hd : Hid (∀ k, k < n -> ∀ c, c < 3 -> w.cell? ⟨gc, k * 3 + c, none⟩ = (F k).cells[c]?)) :
  Calls Tryz.prog 140 #[.agg #[.slice (some ⟨gb, 0, none⟩) n cb, .slice none 0 0, .slice (some ⟨gc, 0, none⟩) n cc, .int .i64 (id : Int), .bool false]] w fun e w' => e = .returned (.bool true) /\ Below w.heap.size w w' := by
 obtain ⟨W0, hW0⟩ : ∃ W0, W0 = w.alloc (.cells #[.slice (some ⟨gb, 0, none⟩) n cb, .slice none 0 0, .slice (some ⟨gc, 0, none⟩) n cc, .int .i64 (id : Int), .bool false] 163) := ⟨_, rfl⟩
 have B0 : Hid (Below w.heap.size w W0) := by rw [hW0]; exact bal (Below.refl _ _) _
 have PG : Hid (PgAt W0 w.heap.size (.slice (some ⟨gb, 0, none⟩) n cb) (.slice none 0 0) (.slice (some ⟨gc, 0, none⟩) n cc) id false) := by rw [hW0]; exact PgAt.new w _ _ _ id false
 have hbW : 0 < n -> gb < W0.heap.size := fun h => Nat.lt_of_lt_of_le (hb h) (uh B0).size
 have hcW : 0 < n -> gc < W0.heap.size := fun h => Nat.lt_of_lt_of_le (hb' h) (uh B0).size
 have hc0 : Hid (∀ k, k < n -> ∀ c, c < 3 -> W0.cell? ⟨gb, k * 3 + c, none⟩ = (F k).cells[c]?) := fun k hk c hc' => (World.cell?_of_block (a := ⟨gb, k * 3 + c, none⟩) ((uh B0).block gb (hb (by omega)))).trans (uh hc k hk c hc')
 have hd0 : Hid (∀ k, k < n -> ∀ c, c < 3 -> W0.cell? ⟨gc, k * 3 + c, none⟩ = (F k).cells[c]?) := fun k hk c hc' => (World.cell?_of_block (a := ⟨gc, k * 3 + c, none⟩) ((uh B0).block gc (hb' (by omega)))).trans (uh hd k hk c hc')
 have HW0 := hide hW0
 have HBW := hide hbW
 have HCW := hide hcW
 clear hW0 hc hd hb hb' hbW hcW
 go_enter Tryz.func140, Tryz.ntmps140
 go_wp2_with fail
 go_loopw [4] (fun i wr => ∃ (k : Nat), k <= n /\ i = .int .i64 (k : Int) /\ Below W0.heap.size W0 wr) (fun i _ => n - (intOf i).toNat)
 case atStart => exact ⟨0, by omega, rfl, by rw [uh HW0]; exact Below.refl _ _⟩
 case round =>
  obtain ⟨k, hk, rfl, hbr⟩ := hrel
  have HB := hide hbr
  have pg := (uh PG).below hbr
  by_cases hlt : k < n
  ·have hwr : w.heap.size < wr.heap.size := World.block_lt_of_cell? wr ⟨w.heap.size, 0, none⟩ pg.a0
   have hgr : gb < wr.heap.size := Nat.lt_of_lt_of_le (uh HBW (by omega)) hbr.size
   have hcr : gc < wr.heap.size := Nat.lt_of_lt_of_le (uh HCW (by omega)) hbr.size
   have e := fun c hc' => (World.cell?_of_block (a := ⟨gb, k * 3 + c, none⟩) (hbr.block gb (uh HBW (by omega)))).trans (uh hc0 k hlt c hc')
   have e' := fun c hc' => (World.cell?_of_block (a := ⟨gc, k * 3 + c, none⟩) (hbr.block gc (uh HCW (by omega)))).trans (uh hd0 k hlt c hc')
   obtain ⟨f, hf⟩ : ∃ f, f = F k := ⟨_, rfl⟩
   rw [<- hf] at e e'
   obtain ⟨nm, p, m, c, sy⟩ := f
   have x0 : ∀ P : Bel wr, P.W.cell? ⟨gb, k * 3, none⟩ = some (.string nm) := fun P => keep1 P.h hgr (e 0 (by omega))
   have x1 : ∀ P : Bel wr, P.W.cell? ⟨gb, k * 3 + 1, none⟩ = some (.slice p m c) := fun P => keep1 P.h hgr (e 1 (by omega))
   have x2 : ∀ P : Bel wr, P.W.cell? ⟨gb, k * 3 + 2, none⟩ = some (.int .i64 sy) := fun P => keep1 P.h hgr (e 2 (by omega))
   have y0 : ∀ P : Bel wr, P.W.cell? ⟨gc, k * 3, none⟩ = some (.string nm) := fun P => keep1 P.h hcr (e' 0 (by omega))
   have y1 : ∀ P : Bel wr, P.W.cell? ⟨gc, k * 3 + 1, none⟩ = some (.slice p m c) := fun P => keep1 P.h hcr (e' 1 (by omega))
   have y2 : ∀ P : Bel wr, P.W.cell? ⟨gc, k * 3 + 2, none⟩ = some (.int .i64 sy) := fun P => keep1 P.h hcr (e' 2 (by omega))
   have p0 : ∀ P : Bel wr, P.W.cell? ⟨w.heap.size, 0, none⟩ = some (.slice (some ⟨gb, 0, none⟩) n cb) := fun P => keep1 P.h hwr pg.a0
   have p2 : ∀ P : Bel wr, P.W.cell? ⟨w.heap.size, 2, none⟩ = some (.slice (some ⟨gc, 0, none⟩) n cc) := fun P => keep1 P.h hwr pg.a2
   have p4 : ∀ P : Bel wr, P.W.cell? ⟨w.heap.size, 4, none⟩ = some (.bool false) := fun P => keep1 P.h hwr pg.a4
   have HSM : Hid (∀ P : Bel wr, Calls Tryz.prog 199 #[.agg #[.string nm, .slice p m c, .int .i64 sy], .agg #[.string nm, .slice p m c, .int .i64 sy]] P.W fun e w'' => e = .returned (.bool true) /\ ∃ q : Bel wr, w'' = q.W) := fun P =>
    (sameF ⟨nm, p, m, c, sy⟩ ⟨nm, p, m, c, sy⟩ rfl rfl rfl P.W).mono (fun e w' ⟨h1, h2⟩ => ⟨h1, ⟨w', P.h.trans (h2.mono P.h.size)⟩, rfl⟩)
   have hI : (k : Int) < (n : Int) := by omega
   have hI0 : (0 : Int) <= (k : Int) := by omega
   clear e e' hf hc0 hd0 PG pg hbr HBW HCW HW0
   go_wp2_with fail
   refine wp_region_quiet_below (by kernel_rfl) (by kernel_rfl) ?_
   repeat (quiet_step (first | (go_at_call 199; refine uh HSM _)))
   refine wpQuiet_nil ?_
   rintro _ ⟨P, rfl⟩
   have p4' := p4 P
   clear p0 p2 p4 x0 x1 x2 y0 y1 y2
   go_wp2_with fail
   go_region
   all_goals go_wp2_with fail
   all_goals exact ⟨⟨k + 1, by omega, by go_num, below_drewN ((uh HB).trans (P.h.mono (uh HB).size)) 1⟩, by simp [intOf]; omega⟩
  ·have hkn : k = n := by omega
   subst hkn
   have hI : ¬ (k : Int) < (k : Int) := by omega
   have p1 := pg.a1
   clear hbr hc0 hd0 pg PG
   go_wp2_with fail
   go_loopw [5] (fun i ww => i = .int .i64 (k : Int) /\ ww = wr) (fun i _ => 0)
   case atStart => exact ⟨rfl, rfl⟩
   case round =>
    obtain ⟨rfl, rfl⟩ := hrel
    have hJ : ¬ (k : Int) < 0 := by omega
    go_wp2_with fail
    go_ret
    exact ⟨rfl, (uh B0).trans ((uh HB).mono (uh B0).size)⟩
def fcat (F : Nat -> FE) (n : Nat) (G : Nat -> FE) : Nat -> FE := fun i => if i < n then F i else G (i - n)
theorem fcat_lt {F G : Nat -> FE} {n i : Nat} (h : i < n) : fcat F n G i = F i := by simp [fcat, h]
theorem fcat_ge {F G : Nat -> FE} {n : Nat} (i : Nat) : fcat F n G (n + i) = G i := by
 have : ¬ n + i < n := by omega
 simp only [fcat, if_neg this, Nat.add_sub_cancel_left]
theorem shows_done (gb gc n cb cc id : Nat) (S : Value) (hn : n <= 64) (hid : id < 1000) (w : World) (hP : Pw w) (hb : gb < w.heap.size) (hb' : gc < w.heap.size) (hc : Hid (∀ k, k < n -> ∀ c, c < 3 -> w.cell? ⟨gb, k * 3 + c, none⟩ = (mkF id k).cells[c]?)) (hd : Hid (∀ k, k < n + 64 -> ∀ c, c < 3 -> w.cell? ⟨gc, k * 3 + c, none⟩ = (fcat (mkF id) n (mkF (id + 100000)) k).cells[c]?)) :
  Calls Tryz.prog 140 #[.agg #[.slice (some ⟨gb, 0, none⟩) n cb, .slice (some ⟨gc, 0, none⟩) (n + 64) cc, S, .int .i64 (id : Int), .bool true]] w fun e w' => e = .returned (.bool true) /\ Below w.heap.size w w' := by
 obtain ⟨W0, hW0⟩ : ∃ W0, W0 = w.alloc (.cells #[.slice (some ⟨gb, 0, none⟩) n cb, .slice (some ⟨gc, 0, none⟩) (n + 64) cc, S, .int .i64 (id : Int), .bool true] 163) := ⟨_, rfl⟩
 have B0 : Hid (Below w.heap.size w W0) := by rw [hW0]; exact bal (Below.refl _ _) _
 have PG : Hid (PgAt W0 w.heap.size (.slice (some ⟨gb, 0, none⟩) n cb) (.slice (some ⟨gc, 0, none⟩) (n + 64) cc) S id true) := by rw [hW0]; exact PgAt.new w _ _ _ id true
 have hbW : gb < W0.heap.size := Nat.lt_of_lt_of_le hb (uh B0).size
 have hcW : gc < W0.heap.size := Nat.lt_of_lt_of_le hb' (uh B0).size
 have hc0 : Hid (∀ k, k < n -> ∀ c, c < 3 -> W0.cell? ⟨gb, k * 3 + c, none⟩ = (mkF id k).cells[c]?) := fun k hk c hc' => (World.cell?_of_block (a := ⟨gb, k * 3 + c, none⟩) ((uh B0).block gb hb)).trans (uh hc k hk c hc')
 have hd0 : Hid (∀ k, k < n + 64 -> ∀ c, c < 3 -> W0.cell? ⟨gc, k * 3 + c, none⟩ = (fcat (mkF id) n (mkF (id + 100000)) k).cells[c]?) := fun k hk c hc' => (World.cell?_of_block (a := ⟨gc, k * 3 + c, none⟩) ((uh B0).block gc hb')).trans (uh hd k hk c hc')
 have P0 := hide (hP.below (uh B0))
 have HW0 := hide hW0
 clear hW0 hc hd hb hb' hP
 go_enter Tryz.func140, Tryz.ntmps140
 go_wp2_with fail
 go_loopw [4] (fun i wr => ∃ (k : Nat), k <= n /\ i = .int .i64 (k : Int) /\ Below W0.heap.size W0 wr) (fun i _ => n - (intOf i).toNat)
 case atStart => exact ⟨0, by omega, rfl, by rw [uh HW0]; exact Below.refl _ _⟩
 case round =>
  obtain ⟨k, hk, rfl, hbr⟩ := hrel
  have HB := hide hbr
  have pg := (uh PG).below hbr
  by_cases hlt : k < n
  ·have hwr : w.heap.size < wr.heap.size := World.block_lt_of_cell? wr ⟨w.heap.size, 0, none⟩ pg.a0
   have hgr : gb < wr.heap.size := Nat.lt_of_lt_of_le hbW hbr.size
   have hcr : gc < wr.heap.size := Nat.lt_of_lt_of_le hcW hbr.size
   have e := fun c hc' => (World.cell?_of_block (a := ⟨gb, k * 3 + c, none⟩) (hbr.block gb hbW)).trans (uh hc0 k hlt c hc')
   have e' : ∀ c, c < 3 -> wr.cell? ⟨gc, k * 3 + c, none⟩ = (mkF id k).cells[c]? := fun c hc' => by
    have h1 := uh hd0 k (by omega) c hc'
    rw [fcat_lt hlt] at h1
    exact (World.cell?_of_block (a := ⟨gc, k * 3 + c, none⟩) (hbr.block gc hcW)).trans h1
   have hI : (k : Int) < (n : Int) := by omega
   have hI0 : (0 : Int) <= (k : Int) := by omega
   have hI1 : (k : Int) < (n : Int) + 64 := by omega
   have hJ : (0 : Int) < (n : Int) + 64 := by omega
   have p4 := pg.a4
   have PGw := hide pg
   have HPw0 := hide ((uh P0).below hbr)
   have E := hide e
   have E' := hide e'
   clear e e' pg hbr
   go_wp2_with fail
   go_region
   obtain ⟨wz, hz⟩ : ∃ wz, wz = wr.drew := ⟨_, rfl⟩
   rw [<- hz]
   have bz : Below wr.heap.size wr wz := by rw [hz]; exact below_drewN (Below.refl _ _) 1
   have zz : wz.heap.size = wr.heap.size := by rw [hz]; rfl
   have x0 : ∀ P : Bel wz, P.W.cell? ⟨gb, k * 3, none⟩ = some (.string (mkS id k)) := fun P => keep1 P.h (by omega) (keep1 bz hgr (uh E 0 (by omega)))
   have x1 : ∀ P : Bel wz, P.W.cell? ⟨gb, k * 3 + 1, none⟩ = some (.slice none 0 0) := fun P => keep1 P.h (by omega) (keep1 bz hgr (uh E 1 (by omega)))
   have x2 : ∀ P : Bel wz, P.W.cell? ⟨gb, k * 3 + 2, none⟩ = some (.int .i64 (-(k : Int) - 1)) := fun P => keep1 P.h (by omega) (keep1 bz hgr (uh E 2 (by omega)))
   have y0 : ∀ P : Bel wz, P.W.cell? ⟨gc, k * 3, none⟩ = some (.string (mkS id k)) := fun P => keep1 P.h (by omega) (keep1 bz hcr (uh E' 0 (by omega)))
   have y1 : ∀ P : Bel wz, P.W.cell? ⟨gc, k * 3 + 1, none⟩ = some (.slice none 0 0) := fun P => keep1 P.h (by omega) (keep1 bz hcr (uh E' 1 (by omega)))
   have y2 : ∀ P : Bel wz, P.W.cell? ⟨gc, k * 3 + 2, none⟩ = some (.int .i64 (-(k : Int) - 1)) := fun P => keep1 P.h (by omega) (keep1 bz hcr (uh E' 2 (by omega)))
   have p0 : ∀ P : Bel wz, P.W.cell? ⟨w.heap.size, 0, none⟩ = some (.slice (some ⟨gb, 0, none⟩) n cb) := fun P => keep1 P.h (by omega) (keep1 bz hwr (uh PGw).a0)
   have p1 : ∀ P : Bel wz, P.W.cell? ⟨w.heap.size, 1, none⟩ = some (.slice (some ⟨gc, 0, none⟩) (n + 64) cc) := fun P => keep1 P.h (by omega) (keep1 bz hwr (uh PGw).a1)
   have p3 : ∀ P : Bel wz, P.W.cell? ⟨w.heap.size, 3, none⟩ = some (.int .i64 (id : Int)) := fun P => keep1 P.h (by omega) (keep1 bz hwr (uh PGw).a3)
   have p4' : ∀ P : Bel wz, P.W.cell? ⟨w.heap.size, 4, none⟩ = some (.bool true) := fun P => keep1 P.h (by omega) (keep1 bz hwr (uh PGw).a4)
   have HPw : Hid (∀ P : Bel wz, Pw P.W) := fun P => ((uh HPw0).below bz).below P.h
   have HMK : Hid (∀ P : Bel wz, Calls Tryz.prog 200 #[.int .i64 (id : Int), .int .i64 (k : Int)] P.W fun e w'' => e = .returned (.agg #[.string (mkS id k), .slice none 0 0, .int .i64 (-(k : Int) - 1)]) /\ ∃ q : Bel wz, w'' = q.W) := fun P =>
    (mark_any id k (by omega) (by omega) P.W (uh HPw P)).mono (fun e w' ⟨h1, h2⟩ => ⟨h1, ⟨w', P.h.trans (h2.mono P.h.size)⟩, rfl⟩)
   have HSM : Hid (∀ P : Bel wz, Calls Tryz.prog 199 #[.agg #[.string (mkS id k), .slice none 0 0, .int .i64 (-(k : Int) - 1)], .agg #[.string (mkS id k), .slice none 0 0, .int .i64 (-(k : Int) - 1)]] P.W fun e w'' => e = .returned (.bool true) /\ ∃ q : Bel wz, w'' = q.W) := fun P =>
    (sameF (mkF id k) (mkF id k) rfl rfl rfl P.W).mono (fun e w' ⟨h1, h2⟩ => ⟨h1, ⟨w', P.h.trans (h2.mono P.h.size)⟩, rfl⟩)
   have HBZ := hide ((uh HB).trans (bz.mono (uh HB).size))
   clear bz zz hz p4
   go_wp2_with fail
   refine wp_region_quiet_below (by kernel_rfl) (by kernel_rfl) ?_
   repeat (quiet_step (first | (go_at_call 199; refine uh HSM _) | (go_at_call 200; refine uh HMK _)))
   refine wpQuiet_nil ?_
   rintro _ ⟨P, rfl⟩
   clear p0 p1 p3 p4' x0 x1 x2 y0 y1 y2
   go_wp2_with fail
   exact ⟨⟨k + 1, by omega, by go_num, (uh HBZ).trans (P.h.mono (uh HBZ).size)⟩, by simp [intOf]; omega⟩
  ·have hkn : k = n := by omega
   subst hkn
   have hI : ¬ (k : Int) < (k : Int) := by omega
   have p1 := pg.a1
   clear hbr hc0 pg
   go_wp2_with fail
   clear p1
   go_loopw [5] (fun i ww => ∃ (j : Nat) (K : Int), j <= 64 /\ i = .int .i64 K /\ K = (k : Int) + (j : Int) /\ Below W0.heap.size W0 ww) (fun i _ => ((k : Int) + 64 - intOf i).toNat)
   case atStart => exact ⟨0, (k : Int), by omega, rfl, by omega, uh HB⟩
   case round =>
    obtain ⟨j, K, hj, rfl, hK, hq⟩ := hrel
    have HQ := hide hq
    have HK := hide hK
    have pgq := (uh PG).below hq
    have hwz : w.heap.size < wr.heap.size := World.block_lt_of_cell? wr ⟨w.heap.size, 0, none⟩ pgq.a0
    have hcz : gc < wr.heap.size := Nat.lt_of_lt_of_le hcW hq.size
    have hK0 : 0 <= K := by omega
    have q1 := pgq.a1
    by_cases hlj : j < 64
    ·have hI2 : K < (k : Int) + 64 := by omega
     have hKt : K.toNat = k + j := by omega
     have hKj : K - (k : Int) = (j : Int) := by omega
     have hwj : IntKind.i64.wrap (j : Int) = (j : Int) := by rw [IntKind.wrap_i64]; omega
     have hwK : IntKind.i64.wrap (K - (k : Int)) = (j : Int) := by rw [hKj, hwj]
     have e' : ∀ c, c < 3 -> wr.cell? ⟨gc, (k + j) * 3 + c, none⟩ = (mkF (id + 100000) j).cells[c]? := fun c hc' => by
      have h1 := uh hd0 (k + j) (by omega) c hc'
      rw [fcat_ge] at h1
      exact (World.cell?_of_block (a := ⟨gc, (k + j) * 3 + c, none⟩) (hq.block gc hcW)).trans h1
     have y0 : ∀ P : Bel wr, P.W.cell? ⟨gc, (k + j) * 3, none⟩ = some (.string (mkS (id + 100000) j)) := fun P => keep1 P.h hcz (e' 0 (by omega))
     have y1 : ∀ P : Bel wr, P.W.cell? ⟨gc, (k + j) * 3 + 1, none⟩ = some (.slice none 0 0) := fun P => keep1 P.h hcz (e' 1 (by omega))
     have y2 : ∀ P : Bel wr, P.W.cell? ⟨gc, (k + j) * 3 + 2, none⟩ = some (.int .i64 (-(j : Int) - 1)) := fun P => keep1 P.h hcz (e' 2 (by omega))
     have p1 : ∀ P : Bel wr, P.W.cell? ⟨w.heap.size, 1, none⟩ = some (.slice (some ⟨gc, 0, none⟩) (k + 64) cc) := fun P => keep1 P.h hwz pgq.a1
     have p3 : ∀ P : Bel wr, P.W.cell? ⟨w.heap.size, 3, none⟩ = some (.int .i64 (id : Int)) := fun P => keep1 P.h hwz pgq.a3
     have HPw : Hid (∀ P : Bel wr, Pw P.W) := fun P => ((uh P0).below hq).below P.h
     have HBE : Hid (∀ P : Bel wr, Calls Tryz.prog 218 #[.int .i64 (id : Int)] P.W fun e w'' => e = .returned (.int .i64 ((id + 100000 : Nat) : Int)) /\ ∃ q : Bel wr, w'' = q.W) := fun P =>
      (Kt.behind_any id hid P.W).mono (fun e w' ⟨h1, h2⟩ => ⟨h1, P, h2⟩)
     have HMK : Hid (∀ P : Bel wr, Calls Tryz.prog 200 #[.int .i64 ((id : Int) + 100000), .int .i64 (j : Int)] P.W fun e w'' => e = .returned (.agg #[.string (mkS (id + 100000) j), .slice none 0 0, .int .i64 (-(j : Int) - 1)]) /\ ∃ q : Bel wr, w'' = q.W) := fun P => by
      have e : (id : Int) + 100000 = ((id + 100000 : Nat) : Int) := by omega
      rw [e]
      exact (mark_any (id + 100000) j (by omega) (by omega) P.W (uh HPw P)).mono (fun e w' ⟨h1, h2⟩ => ⟨h1, ⟨w', P.h.trans (h2.mono P.h.size)⟩, rfl⟩)
     have HSM : Hid (∀ P : Bel wr, Calls Tryz.prog 199 #[.agg #[.string (mkS (id + 100000) j), .slice none 0 0, .int .i64 (-(j : Int) - 1)], .agg #[.string (mkS (id + 100000) j), .slice none 0 0, .int .i64 (-(j : Int) - 1)]] P.W fun e w'' => e = .returned (.bool true) /\ ∃ q : Bel wr, w'' = q.W) := fun P =>
      (sameF (mkF (id + 100000) j) (mkF (id + 100000) j) rfl rfl rfl P.W).mono (fun e w' ⟨h1, h2⟩ => ⟨h1, ⟨w', P.h.trans (h2.mono P.h.size)⟩, rfl⟩)
     clear hq hK e' pgq
     go_wp2_with fail
     refine wp_region_quiet_below (by kernel_rfl) (by kernel_rfl) ?_
     repeat (quiet_step (first | (go_at_call 199; refine uh HSM _) | (go_at_call 200; refine uh HMK _) | (go_at_call 218; refine uh HBE _)))
     refine wpQuiet_nil ?_
     rintro _ ⟨P, rfl⟩
     clear p1 p3 y0 y1 y2
     go_wp2_with fail
     refine ⟨⟨j + 1, K + 1, by omega, by go_num, by have := uh HK; omega, (uh HQ).trans (P.h.mono (uh HQ).size)⟩, by have := uh HK; simp [intOf]; omega⟩
    ·have hI2 : ¬ K < (k : Int) + 64 := by omega
     clear hq hK pgq
     go_wp2_with fail
     go_ret
     exact ⟨rfl, (uh B0).trans ((uh HQ).mono (uh B0).size)⟩
theorem shows_done0 (gc cc id : Nat) (S : Value) (hid : id < 1000) (w : World) (hP : Pw w) (hb' : gc < w.heap.size) (hd : Hid (∀ k, k < 64 -> ∀ c, c < 3 -> w.cell? ⟨gc, k * 3 + c, none⟩ = (mkF (id + 100000) k).cells[c]?)) :
  Calls Tryz.prog 140 #[.agg #[.slice none 0 0, .slice (some ⟨gc, 0, none⟩) 64 cc, S, .int .i64 (id : Int), .bool true]] w fun e w' => e = .returned (.bool true) /\ Below w.heap.size w w' := by
 obtain ⟨W0, hW0⟩ : ∃ W0, W0 = w.alloc (.cells #[.slice none 0 0, .slice (some ⟨gc, 0, none⟩) 64 cc, S, .int .i64 (id : Int), .bool true] 163) := ⟨_, rfl⟩
 have B0 : Hid (Below w.heap.size w W0) := by rw [hW0]; exact bal (Below.refl _ _) _
 have PG : Hid (PgAt W0 w.heap.size (.slice none 0 0) (.slice (some ⟨gc, 0, none⟩) 64 cc) S id true) := by rw [hW0]; exact PgAt.new w _ _ _ id true
 have hcW : gc < W0.heap.size := Nat.lt_of_lt_of_le hb' (uh B0).size
 have hd0 : Hid (∀ k, k < 64 -> ∀ c, c < 3 -> W0.cell? ⟨gc, k * 3 + c, none⟩ = (mkF (id + 100000) k).cells[c]?) := fun k hk c hc' => (World.cell?_of_block (a := ⟨gc, k * 3 + c, none⟩) ((uh B0).block gc hb')).trans (uh hd k hk c hc')
 have P0 := hide (hP.below (uh B0))
 have HW0 := hide hW0
 clear hW0 hd hb' hP
 go_enter Tryz.func140, Tryz.ntmps140
 go_wp2_with fail
 go_loopw [4] (fun i wr => i = .int .i64 0 /\ wr = W0) (fun i _ => 0)
 case atStart => exact ⟨rfl, (uh HW0).symm⟩
 case round =>
  obtain ⟨rfl, rfl⟩ := hrel
  have p1 := (uh PG).a1
  go_wp2_with fail
  clear p1
  obtain ⟨W1, hW1⟩ : ∃ W1, W1 = wr := ⟨_, rfl⟩
  have HB : Hid (Below W1.heap.size W1 W1) := Below.refl _ _
  rw [<- hW1] at PG P0 hd0 hcW B0
  clear HW0
  go_loopw [5] (fun i ww => ∃ (j : Nat) (K : Int), j <= 64 /\ i = .int .i64 K /\ K = (j : Int) /\ Below W1.heap.size W1 ww) (fun i _ => (64 - intOf i).toNat)
  case atStart => exact ⟨0, 0, by omega, rfl, rfl, by rw [<- hW1]; exact Below.refl _ _⟩
  case round =>
   obtain ⟨j, K, hj, rfl, hK, hq⟩ := hrel
   have HQ := hide hq
   have HK := hide hK
   have hK0 : 0 <= K := by omega
   have pgq := (uh PG).below hq
   have hwz : w.heap.size < wr.heap.size := World.block_lt_of_cell? wr ⟨w.heap.size, 0, none⟩ pgq.a0
   have hcz : gc < wr.heap.size := Nat.lt_of_lt_of_le hcW hq.size
   have q1 := pgq.a1
   by_cases hlj : j < 64
   ·have hI2 : K < 64 := by omega
    have hKt : K.toNat = j := by omega
    have hwK : IntKind.i64.wrap K = (j : Int) := by rw [IntKind.wrap_i64]; omega
    have e' : ∀ c, c < 3 -> wr.cell? ⟨gc, j * 3 + c, none⟩ = (mkF (id + 100000) j).cells[c]? := fun c hc' => (World.cell?_of_block (a := ⟨gc, j * 3 + c, none⟩) (hq.block gc hcW)).trans (uh hd0 j (by omega) c hc')
    have y0 : ∀ P : Bel wr, P.W.cell? ⟨gc, j * 3, none⟩ = some (.string (mkS (id + 100000) j)) := fun P => keep1 P.h hcz (e' 0 (by omega))
    have y1 : ∀ P : Bel wr, P.W.cell? ⟨gc, j * 3 + 1, none⟩ = some (.slice none 0 0) := fun P => keep1 P.h hcz (e' 1 (by omega))
    have y2 : ∀ P : Bel wr, P.W.cell? ⟨gc, j * 3 + 2, none⟩ = some (.int .i64 (-(j : Int) - 1)) := fun P => keep1 P.h hcz (e' 2 (by omega))
    have p1 : ∀ P : Bel wr, P.W.cell? ⟨w.heap.size, 1, none⟩ = some (.slice (some ⟨gc, 0, none⟩) 64 cc) := fun P => keep1 P.h hwz pgq.a1
    have p3 : ∀ P : Bel wr, P.W.cell? ⟨w.heap.size, 3, none⟩ = some (.int .i64 (id : Int)) := fun P => keep1 P.h hwz pgq.a3
    have HPw : Hid (∀ P : Bel wr, Pw P.W) := fun P => ((uh P0).below hq).below P.h
    have HBE : Hid (∀ P : Bel wr, Calls Tryz.prog 218 #[.int .i64 (id : Int)] P.W fun e w'' => e = .returned (.int .i64 ((id + 100000 : Nat) : Int)) /\ ∃ q : Bel wr, w'' = q.W) := fun P =>
     (Kt.behind_any id hid P.W).mono (fun e w' ⟨h1, h2⟩ => ⟨h1, P, h2⟩)
    have HMK : Hid (∀ P : Bel wr, Calls Tryz.prog 200 #[.int .i64 ((id : Int) + 100000), .int .i64 (j : Int)] P.W fun e w'' => e = .returned (.agg #[.string (mkS (id + 100000) j), .slice none 0 0, .int .i64 (-(j : Int) - 1)]) /\ ∃ q : Bel wr, w'' = q.W) := fun P => by
     have e : (id : Int) + 100000 = ((id + 100000 : Nat) : Int) := by omega
     rw [e]
     exact (mark_any (id + 100000) j (by omega) (by omega) P.W (uh HPw P)).mono (fun e w' ⟨h1, h2⟩ => ⟨h1, ⟨w', P.h.trans (h2.mono P.h.size)⟩, rfl⟩)
    have HSM : Hid (∀ P : Bel wr, Calls Tryz.prog 199 #[.agg #[.string (mkS (id + 100000) j), .slice none 0 0, .int .i64 (-(j : Int) - 1)], .agg #[.string (mkS (id + 100000) j), .slice none 0 0, .int .i64 (-(j : Int) - 1)]] P.W fun e w'' => e = .returned (.bool true) /\ ∃ q : Bel wr, w'' = q.W) := fun P =>
     (sameF (mkF (id + 100000) j) (mkF (id + 100000) j) rfl rfl rfl P.W).mono (fun e w' ⟨h1, h2⟩ => ⟨h1, ⟨w', P.h.trans (h2.mono P.h.size)⟩, rfl⟩)
    clear hq e' pgq hW1 hK
    go_wp2_with fail
    refine wp_region_quiet_below (by kernel_rfl) (by kernel_rfl) ?_
    repeat (quiet_step (first | (go_at_call 199; refine uh HSM _) | (go_at_call 200; refine uh HMK _) | (go_at_call 218; refine uh HBE _)))
    refine wpQuiet_nil ?_
    rintro _ ⟨P, rfl⟩
    clear p1 p3 y0 y1 y2
    go_wp2_with fail
    refine ⟨⟨j + 1, K + 1, by omega, by go_num, by have := uh HK; omega, (uh HQ).trans (P.h.mono (uh HQ).size)⟩, by have := uh HK; simp [intOf]; omega⟩
   ·have hI2 : ¬ K < 64 := by omega
    clear hq pgq hW1 hK
    go_wp2_with fail
    go_ret
    exact ⟨rfl, (uh B0).trans ((uh HQ).mono (uh B0).size)⟩
end Go.Proofs.YtpeohbkigkfcgaaGreatDoor.Kf
