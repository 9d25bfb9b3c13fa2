import Derived.Test.YtpeohbkigkfcgaaGreatDoorGAF
import Derived.Test.YtpeohbkigkfcgaaGreatDoorGAD
import Derived.Laws.AppendOwn
import Derived.Laws.AppendOwnNone
import Derived.Laws.OwnMore
import Derived.Deep.AppendLies
import Derived.Deep.MidRow
import Derived.Laws.MakeOwn
import Derived.Maps.AppendAt
set_option linter.unusedVariables false
set_option linter.unusedSimpArgs false
set_option maxRecDepth 100000
set_option maxHeartbeats 16000000
namespace Go.Proofs.YtpeohbkigkfcgaaGreatDoor.Kp
open Go Go.ChangeShapes Go.WideShapes Go.ChangeAt Go.RowKit
attribute [local go_sem] setCell_drewN alloc_drewN
theorem run_append_zero (w : World) (base : Nat) (ty : TypeId) (i : TypeInfo) (hi : Tryz.prog.info? 5 = some i) (v : Value) (n : Nat) (xs : List Value) (hown : w.ownsRow base 5 1 v n xs) (px : Option Addr) (cx : Nat) (hx : px = none -> cx = 0) :
  (Builtin.append_ #[55, 55] ty #[v, .slice px 0 cx]).run Tryz.prog w = .ok v w := by
 have ht := Tryz.underlying55
 cases px with
 | none =>
  rw [hx rfl]
  exact run_append_owned_none (P := Tryz.prog) (w := w) base 55 ty 5 i 1 ht hi v n xs hown
 | some a =>
  rcases hown.2 with ⟨rfl, rfl⟩ | ⟨g, cap, cur, rfl, _, _, hnc, _⟩
  ·simp [Builtin.append_, run_underlying ht, sizeOf, typeInfo, hi, Builtin.lenOf, Builtin.firstCells, loadCells, loadCellsFrom]
  ·simp [Builtin.append_, run_underlying ht, sizeOf, typeInfo, hi, Builtin.lenOf, Builtin.firstCells, loadCells, loadCellsFrom, hnc, storeCells]
theorem step_append_nothing {ops : Array Oper} {o : Oper} {a : Act} {K : Act -> World -> Prop} {Q : Exit -> Act -> World -> Prop} {E : Prop} (w : World) (hgd : o.guard = none) (s x : Operand)
  (ho : o.op = .call { callee := .builtin .append, args := #[s, x], argTypes := #[55, 55] })
  (base : Nat) (v : Value) (n : Nat) (xs : List Value) (hs : a.eval s = v) (hown : w.ownsRow base 5 1 v n xs) (px : Option Addr) (cx : Nat) (hpx : px = none -> cx = 0) (hx : a.eval x = .slice px 0 cx)
  (h : ∀ w5, w5 = w -> K (a.put o.dst v) w5) :
  if Region.wanted o (yielded ops a.tmps) = true then Oper.wp Tryz.prog o a w K Q else E := by
 have hw : Region.wanted o (yielded ops a.tmps) = true := by simp [Region.wanted, hgd]
 rw [if_pos hw]
 obtain ⟨i0, hi, hz0, hz1, hz2⟩ := info_parts info5
 have hr := run_append_zero w base o.type i0 hi v n xs hown px cx hpx
 unfold Oper.wp execOp
 simp only [ho, resolve, invoke, builtin, Sem.run_bind, Sem.run_pure, Result.andThen_ok, List.map_toArray, List.map_cons, List.map_nil, hs, hx, hr]
 exact h w rfl
theorem keep_none (px : Option Addr) (cx : Nat) (hpx : px = none -> cx = 0) (bk k B : Nat) (f : Nat -> Nat) (hk : k < 900) (w : World) (m pc : Nat) (pa : Option Addr) (xs : List Value) (hB : B <= w.heap.size) (hm : m < 96) (hk0 : w.cell? ⟨bk, 6, none⟩ = some (.int .i64 (k : Int))) (hk1 : w.cell? ⟨bk, 7, none⟩ = some (.slice pa m pc)) (hf0 : w.frozen? ⟨bk, 6, none⟩ = false) (hf1 : w.frozen? ⟨bk, 7, none⟩ = false)
  (hp : w.ownsRow B 115 5 (.slice pa m pc) m xs) (hpb : ∀ q, (Value.slice pa m pc).ownBlock = some q -> q ≠ bk) :
  Calls Tryz.prog 112 #[.pointer (some ⟨bk, 6, none⟩), .slice px 0 cx] w fun e w' => e = .returned (.tuple #[]) /\ KeepOut w bk k m B (.slice px 0 cx) 0 f (.slice pa m pc) xs w' := by
 have hI1 : (m : Int) < 96 := by omega
 have hbk : bk < w.heap.size := World.block_lt_of_cell? w ⟨bk, 7, none⟩ hk1
 have hnl : Hid ((w.alloc (.cells #[] 5)).drew.ownsRow w.heap.size 5 1 (.slice (some ⟨w.heap.size, 0, none⟩) 0 0) 0 []) := World.ownsRow_lit (base := w.heap.size) (e := 5) (size := 1) w #[] 0 (Nat.le_refl _) (by unfold maxLen; omega) rfl
 have HP := hide hp
 have k1a : (w.alloc (.cells #[] 5)).cell? ⟨bk, 7, none⟩ = some (.slice pa m pc) := (World.cell?_alloc_lt w (.cells #[] 5) ⟨bk, 7, none⟩ hbk).trans hk1
 have G0 : Hid (Below w.heap.size w (w.alloc (.cells #[] 5)).drew) := (bal (Below.refl _ _) _).drew
 have HK0 := hide hk0
 have HF0 := hide hf0
 have HPB := hide hpb
 have hid := hide (id_any bk k (by omega))
 clear hp hk0 hf0 hpb
 go_enter Tryz.func112, Tryz.ntmps112
 go_wp2_with fail
 go_region_law (first
  | (refine step_append_nothing _ rfl _ _ rfl w.heap.size (.slice (some ⟨w.heap.size, 0, none⟩) 0 0) 0 [] rfl (uh hnl) px cx hpx rfl ?_; intro w5 hw5; have G5 : Hid (Below w.heap.size w w5) := (by rw [hw5]; exact uh G0); have O5 : Hid (w5.ownsRow w.heap.size 5 1 (.slice (some ⟨w.heap.size, 0, none⟩) 0 0) 0 []) := (by rw [hw5]; exact uh hnl); have t0 := hide (keep1 (uh G5) hbk (uh HK0)); have t1 := keep1 (uh G5) hbk hk1; have u0 := hide (((uh G5).frozen (p := ⟨bk, 6, none⟩) hbk).trans (uh HF0)); have u1 := hide (((uh G5).frozen (p := ⟨bk, 7, none⟩) hbk).trans hf1); have hb5 : bk < w5.heap.size := Nat.lt_of_lt_of_le hbk (uh G5).size; have t1b := fun x o => load_far (x := x) (o := o) hb5 t1; clear hw5)
  | (go_simp; go_at_call 215; refine (uh hid _ (uh t0) (uh u0)).mono ?_; rintro e w2 ⟨rfl, hw⟩; rw [hw]; clear hw)
  | (refine step_append_page _ rfl _ _ rfl B (.slice pa m pc) m xs rfl (row_far (uh HP) (fun q hq => by have hq1 := ((uh HP).lt q hq).2; rw [Below.heap_alloc _ _ _ (by simpa using Nat.lt_of_lt_of_le hq1 (uh G5).size), Below.heap_setCell _ _ _ _ (uh HPB q hq)]; exact (uh G5).block q hq1)) ⟨w5.heap.size, 0, none⟩ 1 [.slice px 0 cx, .slice none 0 0, .slice (some ⟨w.heap.size, 0, none⟩) 0 0, .int .i64 ((k : Int) + 1), .bool false] rfl rfl (five_new (by simp) _ _ _ _ _ _) (by intro u hu; simp at hu; rcases hu with rfl | rfl | rfl | rfl | rfl <;> rfl) (by omega) (by simp; have := (uh G5).size; omega) ?_; intro g6 c6 w6 hown6 hgr6 hat6; have O6 := hide hown6; have G6 := hide hgr6; have A6 := hide hat6; have t6 := page_far hgr6 (uh HPB) hb5 (by omega) t1; have f6 := page_farF hgr6 (uh HPB) hb5 (uh u1); clear hown6 hgr6 hat6))
 all_goals
  go_wp2_with fail
  go_end0
  exact ⟨rfl, keep_out hbk (fun q hq => ⟨uh HPB q hq, ((uh HP).lt q hq).2⟩) ⟨uh G5, Nat.le_refl _⟩ (uh O5) (uh t0) (fun i => World.frozen?_of_block ((uh G5).block bk hbk)) t6 (uh G6) (uh O6) (uh A6)⟩
def WriteOut (w : World) (bk k m B C gb n : Nat) (L old : Value) (xs : List Value) (w' : World) : Prop :=
 ∃ g6 c6 v, w'.cell? ⟨bk, 6, none⟩ = some (.int .i64 ((k : Int) + 1)) /\ w'.cell? ⟨bk, 7, none⟩ = some (.slice (some ⟨g6, 0, none⟩) (m + 1) c6) /\
  w'.ownsRow B 115 5 (.slice (some ⟨g6, 0, none⟩) (m + 1) c6) (m + 1) (xs ++ [L, v, .slice none 0 0, .int .i64 ((k : Int) + 1), .bool true]) /\
  w'.ownsRow C 5 1 v (n + 64) (bcells (cat (patN (k + 1)) n (patN (k + 1 + 100000))) (n + 64)) /\ (∀ j, j < n -> w'.cell? ⟨gb, j, none⟩ = some (.int .u8 (patN (k + 1) j : Int))) /\
  g6 ≠ bk /\ g6 ≠ gb /\ v.ownBlock ≠ some g6 /\ v.ownBlock ≠ some bk /\ (v.ownBlock = some gb \/ ∀ q, v.ownBlock = some q -> w.heap.size <= q) /\ (some g6 = old.ownBlock \/ w.heap.size <= g6) /\
  (∀ i, i ≠ 6 -> i ≠ 7 -> w'.cell? ⟨bk, i, none⟩ = w.cell? ⟨bk, i, none⟩) /\ (∀ i, w'.frozen? ⟨bk, i, none⟩ = w.frozen? ⟨bk, i, none⟩) /\
  w.heap.size <= w'.heap.size /\ w'.os = w.os /\ w'.tape = w.tape /\ w'.output = w.output /\ ∀ q, q < w.heap.size -> q ≠ bk -> q ≠ gb -> old.ownBlock ≠ some q -> w'.heap[q]? = w.heap[q]?
theorem write_out {w w3 w6 : World} {bk k m B C gb n g6 c6 : Nat} {L old u v : Value} {xs : List Value} {o : Obj} (hbk : bk < w.heap.size) (hgb : gb < w3.heap.size) (hgk : gb ≠ bk) (hold : ∀ q, old.ownBlock = some q -> (q ≠ bk /\ q ≠ gb) /\ q < w.heap.size)
  (c0 : w3.cell? ⟨bk, 6, none⟩ = some (.int .i64 ((k : Int) + 1))) (ci : ∀ i, i ≠ 6 -> i ≠ 7 -> w3.cell? ⟨bk, i, none⟩ = w.cell? ⟨bk, i, none⟩) (cf : ∀ i, w3.frozen? ⟨bk, i, none⟩ = w.frozen? ⟨bk, i, none⟩)
  (r3 : ∀ q, q < w.heap.size -> q ≠ bk -> q ≠ gb -> w3.heap[q]? = w.heap[q]?) (hz3 : w.heap.size + 1 <= w3.heap.size) (own3 : w3.ownsRow C 5 1 v (n + 64) (bcells (cat (patN (k + 1)) n (patN (k + 1 + 100000))) (n + 64)))
  (lst3 : ∀ j, j < n -> w3.cell? ⟨gb, j, none⟩ = some (.int .u8 (patN (k + 1) j : Int))) (hv : v.ownBlock = some gb \/ ∀ q, v.ownBlock = some q -> w.heap.size <= q) (os3 : w3.os = w.os) (tp3 : w3.tape = w.tape) (ou3 : w3.output = w.output)
  (t6 : w6.cell? ⟨bk, 7, none⟩ = some u) (G6 : (w3.alloc o).drew.grownBy w6 old.ownBlock)
  (O6 : w6.ownsRow B 115 5 (.slice (some ⟨g6, 0, none⟩) (m + 1) c6) (m + 1) (xs ++ [L, v, .slice none 0 0, .int .i64 ((k : Int) + 1), .bool true]))
  (A6 : some g6 = old.ownBlock \/ g6 = (w3.alloc o).drew.heap.size) :
  WriteOut w bk k m B C gb n L old xs (w6.setCell ⟨bk, 7, none⟩ (.slice (some ⟨g6, 0, none⟩) (m + 1) c6)) := by
 have hsz : (w3.alloc o).drew.heap.size = w3.heap.size + 1 := by simp
 rw [hsz] at A6
 have hs6 := G6.size
 rw [hsz] at hs6
 have hne6 : g6 ≠ bk /\ g6 ≠ gb := by
  rcases A6 with h | h
  ·exact (hold g6 h.symm).1
  ·omega
 have hvo : ∀ q, v.ownBlock = some q -> q ≠ bk /\ q ≠ g6 /\ q < w3.heap.size /\ some q ≠ old.ownBlock := by
  intro q hq
  have h1 := (own3.lt q hq).2
  rcases hv with h | h
  ·rw [h] at hq
   injection hq with hq
   subst hq
   refine ⟨hgk, hne6.2.symm, h1, fun e => (hold _ e.symm).1.2 rfl⟩
  ·have h2 := h q hq
   refine ⟨by omega, ?_, h1, fun e => by have := (hold _ e.symm).2; omega⟩
   rcases A6 with h' | h'
   ·have := (hold g6 h'.symm).2
    omega
   ·omega
 have hblk : ∀ q, q < w3.heap.size -> q ≠ bk -> some q ≠ old.ownBlock -> (w6.setCell ⟨bk, 7, none⟩ (.slice (some ⟨g6, 0, none⟩) (m + 1) c6)).heap[q]? = w3.heap[q]? := by
  intro q hq h1 h2
  rw [Below.heap_setCell _ _ _ _ h1, G6.block q (by rw [hsz]; omega) h2]
  exact Below.heap_alloc w3 _ _ hq
 have hcell : ∀ i, i ≠ 7 -> (w6.setCell ⟨bk, 7, none⟩ (.slice (some ⟨g6, 0, none⟩) (m + 1) c6)).cell? ⟨bk, i, none⟩ = w3.cell? ⟨bk, i, none⟩ := by
  intro i h1
  rw [World.cell?_setCell_other _ _ _ _ (by intro h'; injection h' with _ h' _; omega), G6.cell_far ⟨bk, i, none⟩ (by rw [hsz]; show bk < _; omega) (fun e => (hold bk e.symm).1.1 rfl)]
  exact World.cell?_alloc_lt w3 _ _ (by show bk < _; omega)
 refine ⟨g6, c6, v, (hcell 6 (by omega)).trans c0, World.cell?_setCell_same _ _ _ t6, row_far O6 ?_, row_far own3 ?_, fun j hj => ?_, hne6.1, hne6.2, fun e => (hvo g6 e).2.1 rfl, fun e => (hvo bk e).1 rfl, hv, A6.imp id (fun h => by omega), fun i hi hi' => (hcell i (by omega)).trans (ci i hi hi'), fun i => ?_, by simp; omega, ?_, ?_, ?_, fun q hq h1 h2 h3 => ?_⟩
 ·intro q hq
  injection hq with hq
  have hq : g6 = q := hq
  subst hq
  exact Below.heap_setCell _ _ _ _ hne6.1
 ·intro q hq
  obtain ⟨h1, _, h3, h4⟩ := hvo q hq
  exact hblk q h3 h1 h4
 ·rw [World.cell?_of_block (hblk gb (by omega) hgk (fun e => (hold gb e.symm).1.2 rfl))]
  exact lst3 j hj
 ·rw [<- cf i]
  have h := (G6.frozen_far ⟨bk, i, none⟩ (by rw [hsz]; show bk < _; omega) (fun e => (hold bk e.symm).1.1 rfl)).trans (World.frozen?_alloc_past (w := w3) o bk i (by omega))
  simpa using h
 ·exact G6.os.trans os3
 ·exact G6.tape.trans tp3
 ·exact G6.output.trans ou3
 ·rw [hblk q (by omega) h1 (fun e => h3 e.symm)]
  exact r3 q hq h1 h2
theorem write_some (bk k n cap gb B C : Nat) (f : Nat -> Nat) (hk : k < 900) (hn : n <= 1048576) (w : World) (m pc : Nat) (pa : Option Addr) (xs : List Value) (hB : B <= w.heap.size) (hC : C <= w.heap.size) (hm : m < 96) (hk0 : w.cell? ⟨bk, 6, none⟩ = some (.int .i64 (k : Int))) (hk1 : w.cell? ⟨bk, 7, none⟩ = some (.slice pa m pc)) (hf0 : w.frozen? ⟨bk, 6, none⟩ = false) (hf1 : w.frozen? ⟨bk, 7, none⟩ = false)
  (hgb : gb < w.heap.size) (hgk : gb ≠ bk) (hL : w.ownsRow C 5 1 (.slice (some ⟨gb, 0, none⟩) n cap) n (bcells f n)) (hLf : ∀ j, j < n -> w.frozen? ⟨gb, j, none⟩ = false) (hp : w.ownsRow B 115 5 (.slice pa m pc) m xs) (hpb : ∀ q, (Value.slice pa m pc).ownBlock = some q -> q ≠ bk /\ q ≠ gb) :
  Calls Tryz.prog 113 #[.pointer (some ⟨bk, 6, none⟩), .slice (some ⟨gb, 0, none⟩) n cap] w fun e w' => e = .returned (.tuple #[]) /\ WriteOut w bk k m B C gb n (.slice (some ⟨gb, 0, none⟩) n cap) (.slice pa m pc) xs w' := by
 have hI1 : (m : Int) < 96 := by omega
 have hbk : bk < w.heap.size := World.block_lt_of_cell? w ⟨bk, 7, none⟩ hk1
 have hid := hide (id_any bk k (by omega) w hk0 hf0)
 have HW : Hid (∃ W1, W1 = (w.setCell ⟨bk, 6, none⟩ (.int .i64 ((k : Int) + 1))).alloc (.cells #[.slice (some ⟨gb, 0, none⟩) n cap, .slice none 0 0, .slice none 0 0, .int .i64 ((k : Int) + 1), .bool false] 115)) := ⟨_, rfl⟩
 obtain ⟨W1, hW1⟩ := uh HW
 have hs1 : (w.setCell ⟨bk, 6, none⟩ (.int .i64 ((k : Int) + 1))).heap.size = w.heap.size := by simp
 have hz1 : W1.heap.size = w.heap.size + 1 := by rw [hW1]; simp
 have hpc : ∀ j, W1.cell? ⟨w.heap.size, j, none⟩ = (#[.slice (some ⟨gb, 0, none⟩) n cap, .slice none 0 0, .slice none 0 0, .int .i64 ((k : Int) + 1), .bool false] : Array Value)[j]? := by
  intro j
  rw [hW1, <- hs1, World.cell?_alloc_mark]
 have hpf : ∀ j, W1.frozen? ⟨w.heap.size, j, none⟩ = false := by
  intro j
  rw [hW1]
  exact World.frozen?_alloc_at _ _ _ _ hs1.symm
 have hblk : ∀ q, q < w.heap.size -> q ≠ bk -> W1.heap[q]? = w.heap[q]? := by
  intro q hq h1
  rw [hW1, Below.heap_alloc _ _ _ (by simpa using hq), Below.heap_setCell _ _ _ _ h1]
 have hL1 : W1.ownsRow C 5 1 (.slice (some ⟨gb, 0, none⟩) n cap) n (bcells f n) := row_far hL (fun q hq => by injection hq with hq; have hq : gb = q := hq; subst hq; exact hblk gb hgb hgk)
 have hfill := hide (fill_some w.heap.size 0 gb n cap (k + 1) f hn (by omega) W1 (by omega) (hpc 0) ((hpc 3).trans (by simp)) ⟨_, hpc 4⟩ (hpf 4) (fun j hj => by rw [hL1.cellAt j (by omega)]; exact bcells_get _ _ _ hj) (fun j hj => by rw [World.frozen?_of_block (hblk gb hgb hgk)]; exact hLf j hj) (by omega))
 have HP := hide hp
 have HPB := hide hpb
 have HK1 := hide hk1
 have HF1 := hide hf1
 have HPC := hide hpc
 have HPF := hide hpf
 have HBL := hide hblk
 have HL1 := hide hL1
 have hk1' : W1.cell? ⟨bk, 7, none⟩ = some (.slice pa m pc) := by rw [hW1]; exact load_far (w5 := w) hbk hk1
 have hf1' : W1.frozen? ⟨bk, 7, none⟩ = false := by rw [hW1, World.frozen?_alloc_past _ _ _ (by simpa using hbk)]; simpa using hf1
 have WB : Hid (W1.cell? ⟨bk, 6, none⟩ = some (.int .i64 ((k : Int) + 1)) /\ (∀ i, i ≠ 6 -> i ≠ 7 -> W1.cell? ⟨bk, i, none⟩ = w.cell? ⟨bk, i, none⟩) /\ (∀ i, W1.frozen? ⟨bk, i, none⟩ = w.frozen? ⟨bk, i, none⟩) /\ W1.os = w.os /\ W1.tape = w.tape /\ W1.output = w.output) := by
  rw [hW1]
  refine ⟨(World.cell?_alloc_lt _ _ _ (by simpa using hbk)).trans (World.cell?_setCell_same _ _ _ hk0), fun i hi hi' => (World.cell?_alloc_lt _ _ _ (by simpa using hbk)).trans (World.cell?_setCell_other _ _ _ _ (by intro h'; injection h' with _ h' _; omega)), fun i => (World.frozen?_alloc_past _ _ _ (by simpa using hbk)).trans (by simp), rfl, rfl, rfl⟩
 have K1' := hide hk1'
 have F1' := hide hf1'
 have HW1 := hide hW1
 clear hp hpb hpc hpf hblk hL1 hk1' hf1' hL hLf hW1 hf1
 go_enter Tryz.func113, Tryz.ntmps113
 go_wp2_with fail
 refine (uh hid).mono ?_
 rintro e w2 ⟨rfl, hw⟩
 rw [hw]
 clear hw
 go_wp2_with fail
 rw [<- uh HW1]
 refine (uh hfill).mono ?_
 rintro e w2 ⟨rfl, w1, hF, hw2⟩
 have hne : w.heap.size ≠ gb := by omega
 have hgr := hF.gr
 have hz2 : w.heap.size + 1 <= w2.heap.size := by rw [hw2]; have := hgr.size; simp; omega
 have hpg2 : ∀ j, j ≠ 4 -> w2.cell? ⟨w.heap.size, j, none⟩ = W1.cell? ⟨w.heap.size, j, none⟩ := fun j hj => by
  rw [hw2, World.cell?_setCell_other _ _ _ _ (by intro h'; injection h' with _ h' _; omega)]
  exact hgr.cell_far ⟨w.heap.size, j, none⟩ (by show w.heap.size < _; omega) (by simpa using hne)
 have hpf2 : ∀ j, w2.frozen? ⟨w.heap.size, j, none⟩ = false := fun j => by
  rw [hw2]
  have h := hgr.frozen_far ⟨w.heap.size, j, none⟩ (by show w.heap.size < _; omega) (by simpa using hne)
  simpa using h.trans (uh HPF j)
 have hp42 : w2.cell? ⟨w.heap.size, 4, none⟩ = some (.bool true) := by
  rw [hw2]
  exact World.cell?_setCell_same _ _ _ ((hgr.cell_far ⟨w.heap.size, 4, none⟩ (by show w.heap.size < _; omega) (by simpa using hne)).trans (uh HPC 4))
 have hbl2 : ∀ q, q ≠ w.heap.size -> q ≠ gb -> q < W1.heap.size -> w2.heap[q]? = W1.heap[q]? := fun q h1 h2 h3 => by
  rw [hw2, Below.heap_setCell _ _ _ _ h1]
  exact hgr.block q h3 (by simpa using h2)
 have hown2 : w2.ownsRow C 5 1 (.slice (some ⟨gb, 0, none⟩) n cap) n (bcells (patN (k + 1)) n) := by
  rw [hw2]
  exact row_far (hF.own (uh HL1)) (fun q hq => by injection hq with hq; have hq : gb = q := hq; subst hq; exact Below.heap_setCell _ _ _ _ hne.symm)
 have hgrow := hide (grow_some w.heap.size 0 gb n cap (k + 1) C (by omega) hn w2 (by omega) hne (by omega) ((hpg2 0 (by omega)).trans (uh HPC 0)) ⟨_, (hpg2 1 (by omega)).trans (uh HPC 1)⟩ (hpf2 1) (((hpg2 3 (by omega)).trans (uh HPC 3)).trans (by simp)) hown2)
 have OS2 : Hid (w2.os = W1.os /\ w2.tape = W1.tape /\ w2.output = W1.output) := by rw [hw2]; exact ⟨hgr.os, hgr.tape, hgr.output⟩
 have HH := hide (And.intro hpg2 (And.intro hpf2 (And.intro hp42 hbl2)))
 clear hpg2 hpf2 hp42 hbl2 hown2 hgr hF hw2
 go_wp2_with fail
 refine (uh hgrow).mono ?_
 rintro e w3 ⟨rfl, v, hG⟩
 obtain ⟨hpg2, hpf2, hp42, hbl2⟩ := uh HH
 have c0 : w3.cell? ⟨w.heap.size, 0, none⟩ = some (.slice (some ⟨gb, 0, none⟩) n cap) := ((hG.page 0 (by omega)).trans (hpg2 0 (by omega))).trans (uh HPC 0)
 have c1 : w3.cell? ⟨w.heap.size, 1, none⟩ = some v := hG.g
 have c2 : w3.cell? ⟨w.heap.size, 2, none⟩ = some (.slice none 0 0) := ((hG.page 2 (by omega)).trans (hpg2 2 (by omega))).trans (uh HPC 2)
 have c3 : w3.cell? ⟨w.heap.size, 3, none⟩ = some (.int .i64 ((k : Int) + 1)) := ((hG.page 3 (by omega)).trans (hpg2 3 (by omega))).trans (uh HPC 3)
 have c4 : w3.cell? ⟨w.heap.size, 4, none⟩ = some (.bool true) := (hG.page 4 (by omega)).trans hp42
 obtain ⟨g3, c3', rfl⟩ := own_open hG.own (by omega)
 have HG := hide hG
 by_cases hkg : bk = gb
 ·exact absurd hkg.symm hgk
 have b3 : w3.heap[bk]? = W1.heap[bk]? := (hG.far bk (by omega) (by omega) hkg).trans (hbl2 bk (by omega) hkg (by omega))
 have t1 : w3.cell? ⟨bk, 7, none⟩ = some (.slice pa m pc) := (World.cell?_of_block b3).trans (uh K1')
 have u1 : w3.frozen? ⟨bk, 7, none⟩ = false := (World.frozen?_of_block b3).trans (uh F1')
 have r3 : Hid (∀ q, q < w.heap.size -> q ≠ bk -> q ≠ gb -> w3.heap[q]? = w.heap[q]?) := fun q h1 h2 h3 => ((hG.far q (by omega) (by omega) h3).trans (hbl2 q (by omega) h3 (by omega))).trans (uh HBL q h1 h2)
 have B3 : Hid (w3.heap[bk]? = W1.heap[bk]?) := b3
 have hz3 : w.heap.size + 1 <= w3.heap.size := Nat.le_trans hz2 hG.size
 have hb3 : bk < w3.heap.size := by omega
 have t1a := fun o => (World.cell?_alloc_lt w3 o ⟨bk, 7, none⟩ hb3).trans t1
 have u1a := hide (fun o => (World.frozen?_alloc_past (w := w3) o bk 7 hb3).trans u1)
 have U1 := hide u1
 clear hpg2 hpf2 hp42 hbl2 hG u1 b3
 go_wp2_with fail
 go_region_law (first
  | (refine step_append_page _ rfl _ _ rfl B (.slice pa m pc) m xs rfl (row_far (uh HP) (fun q hq => by have hq1 := ((uh HP).lt q hq).2; exact (Below.heap_alloc w3 _ _ (by omega)).trans (uh r3 q hq1 (uh HPB q hq).1 (uh HPB q hq).2))) ⟨w3.heap.size, 0, none⟩ 1 [.slice (some ⟨gb, 0, none⟩) n cap, .slice (some ⟨g3, 0, none⟩) (n + 64) c3', .slice none 0 0, .int .i64 ((k : Int) + 1), .bool true] rfl rfl (five_new rfl _ _ _ _ _ _) (by intro u hu; simp at hu; rcases hu with rfl | rfl | rfl | rfl | rfl <;> rfl) (by omega) (by simp; omega) ?_; intro g6 c6 w6 hown6 hgr6 hat6; have O6 := hide hown6; have G6 := hide hgr6; have A6 := hide hat6; have t6 := (hgr6.cell_far ⟨bk, 7, none⟩ (by simp; omega) (fun e => (uh HPB bk e.symm).1 rfl)).trans (t1a _); have f6 := (hgr6.frozen_far ⟨bk, 7, none⟩ (by simp; omega) (fun e => (uh HPB bk e.symm).1 rfl)).trans (uh u1a _); clear hown6 hgr6 hat6))
 all_goals
  go_wp2_with fail
  go_end0
  obtain ⟨wb0, wbi, wbf, wbo, wbt, wbu⟩ := uh WB
  obtain ⟨o1, o2, o3⟩ := uh OS2
  refine ⟨rfl, write_out hbk (by omega) hgk (fun q hq => ⟨uh HPB q hq, ((uh HP).lt q hq).2⟩) ((World.cell?_of_block (uh B3)).trans wb0) (fun i hi hi' => (World.cell?_of_block (uh B3)).trans (wbi i hi hi')) (fun i => (World.frozen?_of_block (uh B3)).trans (wbf i)) (uh r3) hz3 (uh HG).own (uh HG).lst ((uh HG).at'.imp id (fun h q hq => by have := h q hq; omega)) (((uh HG).os.trans o1).trans wbo) (((uh HG).tape.trans o2).trans wbt) (((uh HG).output.trans o3).trans wbu) t6 (uh G6) (uh O6) (uh A6)⟩
theorem write_none (bk k B C : Nat) (hk : k < 900) (w : World) (m pc : Nat) (pa : Option Addr) (xs : List Value) (hB : B <= w.heap.size) (hC : C <= w.heap.size) (hm : m < 96) (hk0 : w.cell? ⟨bk, 6, none⟩ = some (.int .i64 (k : Int))) (hk1 : w.cell? ⟨bk, 7, none⟩ = some (.slice pa m pc)) (hf0 : w.frozen? ⟨bk, 6, none⟩ = false) (hf1 : w.frozen? ⟨bk, 7, none⟩ = false)
  (hp : w.ownsRow B 115 5 (.slice pa m pc) m xs) (hpb : ∀ q, (Value.slice pa m pc).ownBlock = some q -> q ≠ bk) :
  Calls Tryz.prog 113 #[.pointer (some ⟨bk, 6, none⟩), .slice none 0 0] w fun e w' => e = .returned (.tuple #[]) /\ WriteOut w bk k m B C w.heap.size 0 (.slice none 0 0) (.slice pa m pc) xs w' := by
 have hI1 : (m : Int) < 96 := by omega
 have hbk : bk < w.heap.size := World.block_lt_of_cell? w ⟨bk, 7, none⟩ hk1
 have hid := hide (id_any bk k (by omega) w hk0 hf0)
 have HW : Hid (∃ W1, W1 = (w.setCell ⟨bk, 6, none⟩ (.int .i64 ((k : Int) + 1))).alloc (.cells #[.slice none 0 0, .slice none 0 0, .slice none 0 0, .int .i64 ((k : Int) + 1), .bool false] 115)) := ⟨_, rfl⟩
 obtain ⟨W1, hW1⟩ := uh HW
 have hs1 : (w.setCell ⟨bk, 6, none⟩ (.int .i64 ((k : Int) + 1))).heap.size = w.heap.size := by simp
 have hz1 : W1.heap.size = w.heap.size + 1 := by rw [hW1]; simp
 have hpc : ∀ j, W1.cell? ⟨w.heap.size, j, none⟩ = (#[.slice none 0 0, .slice none 0 0, .slice none 0 0, .int .i64 ((k : Int) + 1), .bool false] : Array Value)[j]? := by
  intro j
  rw [hW1, <- hs1, World.cell?_alloc_mark]
 have hpf : ∀ j, W1.frozen? ⟨w.heap.size, j, none⟩ = false := by
  intro j
  rw [hW1]
  exact World.frozen?_alloc_at _ _ _ _ hs1.symm
 have hblk : ∀ q, q < w.heap.size -> q ≠ bk -> W1.heap[q]? = w.heap[q]? := by
  intro q hq h1
  rw [hW1, Below.heap_alloc _ _ _ (by simpa using hq), Below.heap_setCell _ _ _ _ h1]
 have hfill := hide (fill_none w.heap.size 0 W1 (hpc 0) ⟨_, hpc 4⟩ (hpf 4))
 have HP := hide hp
 have HPB := hide hpb
 have HK1 := hide hk1
 have HF1 := hide hf1
 have HPC := hide hpc
 have HPF := hide hpf
 have HBL := hide hblk
 have hk1' : W1.cell? ⟨bk, 7, none⟩ = some (.slice pa m pc) := by rw [hW1]; exact load_far (w5 := w) hbk hk1
 have hf1' : W1.frozen? ⟨bk, 7, none⟩ = false := by rw [hW1, World.frozen?_alloc_past _ _ _ (by simpa using hbk)]; simpa using hf1
 have WB : Hid (W1.cell? ⟨bk, 6, none⟩ = some (.int .i64 ((k : Int) + 1)) /\ (∀ i, i ≠ 6 -> i ≠ 7 -> W1.cell? ⟨bk, i, none⟩ = w.cell? ⟨bk, i, none⟩) /\ (∀ i, W1.frozen? ⟨bk, i, none⟩ = w.frozen? ⟨bk, i, none⟩) /\ W1.os = w.os /\ W1.tape = w.tape /\ W1.output = w.output) := by
  rw [hW1]
  refine ⟨(World.cell?_alloc_lt _ _ _ (by simpa using hbk)).trans (World.cell?_setCell_same _ _ _ hk0), fun i hi hi' => (World.cell?_alloc_lt _ _ _ (by simpa using hbk)).trans (World.cell?_setCell_other _ _ _ _ (by intro h'; injection h' with _ h' _; omega)), fun i => (World.frozen?_alloc_past _ _ _ (by simpa using hbk)).trans (by simp), rfl, rfl, rfl⟩
 have K1' := hide hk1'
 have F1' := hide hf1'
 have HW1 := hide hW1
 clear hp hpb hpc hpf hblk hk1' hf1' hW1 hf1
 go_enter Tryz.func113, Tryz.ntmps113
 go_wp2_with fail
 refine (uh hid).mono ?_
 rintro e w2 ⟨rfl, hw⟩
 rw [hw]
 clear hw
 go_wp2_with fail
 rw [<- uh HW1]
 refine (uh hfill).mono ?_
 rintro e w2 ⟨rfl, hw2⟩
 have hz2 : w2.heap.size = w.heap.size + 1 := by rw [hw2]; simp; omega
 have hpg2 : ∀ j, j ≠ 4 -> w2.cell? ⟨w.heap.size, j, none⟩ = W1.cell? ⟨w.heap.size, j, none⟩ := fun j hj => by
  rw [hw2]
  exact World.cell?_setCell_other _ _ _ _ (by intro h'; injection h' with _ h' _; omega)
 have hpf2 : ∀ j, w2.frozen? ⟨w.heap.size, j, none⟩ = false := fun j => by
  rw [hw2]
  simpa using uh HPF j
 have hp42 : w2.cell? ⟨w.heap.size, 4, none⟩ = some (.bool true) := by
  rw [hw2]
  exact World.cell?_setCell_same _ _ _ (uh HPC 4)
 have hbl2 : ∀ q, q ≠ w.heap.size -> w2.heap[q]? = W1.heap[q]? := fun q h1 => by
  rw [hw2, Below.heap_setCell _ _ _ _ h1]
 have hgrow := hide (grow_none w.heap.size 0 (k + 1) C (by omega) w2 (by omega) ((hpg2 0 (by omega)).trans (uh HPC 0)) ⟨_, (hpg2 1 (by omega)).trans (uh HPC 1)⟩ (hpf2 1) (((hpg2 3 (by omega)).trans (uh HPC 3)).trans (by simp)))
 have OS2 : Hid (w2.os = W1.os /\ w2.tape = W1.tape /\ w2.output = W1.output) := by rw [hw2]; exact ⟨rfl, rfl, rfl⟩
 have HH := hide (And.intro hpg2 (And.intro hpf2 (And.intro hp42 hbl2)))
 clear hpg2 hpf2 hp42 hbl2 hw2
 go_wp2_with fail
 refine (uh hgrow).mono ?_
 rintro e w3 ⟨rfl, v, hG⟩
 obtain ⟨hpg2, hpf2, hp42, hbl2⟩ := uh HH
 have c0 : w3.cell? ⟨w.heap.size, 0, none⟩ = some (.slice none 0 0) := ((hG.page 0 (by omega)).trans (hpg2 0 (by omega))).trans (uh HPC 0)
 have c1 : w3.cell? ⟨w.heap.size, 1, none⟩ = some v := hG.g
 have c2 : w3.cell? ⟨w.heap.size, 2, none⟩ = some (.slice none 0 0) := ((hG.page 2 (by omega)).trans (hpg2 2 (by omega))).trans (uh HPC 2)
 have c3 : w3.cell? ⟨w.heap.size, 3, none⟩ = some (.int .i64 ((k : Int) + 1)) := ((hG.page 3 (by omega)).trans (hpg2 3 (by omega))).trans (uh HPC 3)
 have c4 : w3.cell? ⟨w.heap.size, 4, none⟩ = some (.bool true) := (hG.page 4 (by omega)).trans hp42
 obtain ⟨g3, c3', rfl⟩ := own_open hG.own (by omega)
 have HG := hide hG
 have b3 : w3.heap[bk]? = W1.heap[bk]? := (hG.far bk (by omega) (by omega) (by omega)).trans (hbl2 bk (by omega))
 have t1 : w3.cell? ⟨bk, 7, none⟩ = some (.slice pa m pc) := (World.cell?_of_block b3).trans (uh K1')
 have u1 : w3.frozen? ⟨bk, 7, none⟩ = false := (World.frozen?_of_block b3).trans (uh F1')
 have r3 : Hid (∀ q, q < w.heap.size -> q ≠ bk -> q ≠ w.heap.size -> w3.heap[q]? = w.heap[q]?) := fun q h1 h2 h3 => ((hG.far q (by omega) (by omega) (by omega)).trans (hbl2 q (by omega))).trans (uh HBL q h1 h2)
 have B3 : Hid (w3.heap[bk]? = W1.heap[bk]?) := b3
 have hz3 : w.heap.size + 1 <= w3.heap.size := by have := hG.size; omega
 have hb3 : bk < w3.heap.size := by omega
 have t1a := fun o => (World.cell?_alloc_lt w3 o ⟨bk, 7, none⟩ hb3).trans t1
 have u1a := hide (fun o => (World.frozen?_alloc_past (w := w3) o bk 7 hb3).trans u1)
 have U1 := hide u1
 clear hpg2 hpf2 hp42 hbl2 hG u1 b3
 go_wp2_with fail
 go_region_law (first
  | (refine step_append_page _ rfl _ _ rfl B (.slice pa m pc) m xs rfl (row_far (uh HP) (fun q hq => by have hq1 := ((uh HP).lt q hq).2; exact (Below.heap_alloc w3 _ _ (by omega)).trans (uh r3 q hq1 (uh HPB q hq) (by omega)))) ⟨w3.heap.size, 0, none⟩ 1 [.slice none 0 0, .slice (some ⟨g3, 0, none⟩) (0 + 64) c3', .slice none 0 0, .int .i64 ((k : Int) + 1), .bool true] rfl rfl (five_new rfl _ _ _ _ _ _) (by intro u hu; simp at hu; rcases hu with rfl | rfl | rfl | rfl | rfl <;> rfl) (by omega) (by simp; omega) ?_; intro g6 c6 w6 hown6 hgr6 hat6; have O6 := hide hown6; have G6 := hide hgr6; have A6 := hide hat6; have t6 := (hgr6.cell_far ⟨bk, 7, none⟩ (by simp; omega) (fun e => uh HPB bk e.symm rfl)).trans (t1a _); have f6 := (hgr6.frozen_far ⟨bk, 7, none⟩ (by simp; omega) (fun e => uh HPB bk e.symm rfl)).trans (uh u1a _); clear hown6 hgr6 hat6))
 all_goals
  go_wp2_with fail
  go_end0
  obtain ⟨wb0, wbi, wbf, wbo, wbt, wbu⟩ := uh WB
  obtain ⟨o1, o2, o3⟩ := uh OS2
  refine ⟨rfl, write_out (gb := w.heap.size) (n := 0) hbk (by omega) (by omega) (fun q hq => by have := ((uh HP).lt q hq).2; exact ⟨⟨uh HPB q hq, by omega⟩, this⟩) ((World.cell?_of_block (uh B3)).trans wb0) (fun i hi hi' => (World.cell?_of_block (uh B3)).trans (wbi i hi hi')) (fun i => (World.frozen?_of_block (uh B3)).trans (wbf i)) (uh r3) hz3 (uh HG).own (fun j hj => absurd hj (Nat.not_lt_zero j)) (.inr (fun q hq => (uh HG).at'.elim (fun h => by rw [h] at hq; injection hq with hq; omega) (fun h => by have := h q hq; omega))) (((uh HG).os.trans o1).trans wbo) (((uh HG).tape.trans o2).trans wbt) (((uh HG).output.trans o3).trans wbu) t6 (uh G6) (uh O6) (uh A6)⟩
def Fp (R : Value) (p : Nat -> Pg) (m q : Nat) : Prop := R.ownBlock = some q \/ ∃ i, i < m /\ (p i).has q
theorem KindAt.fp {w : World} {bk m : Nat} {R : Value} {p : Nat -> Pg} (h : KindAt w bk m R p) {q : Nat} (hq : Fp R p m q) : q ≠ bk /\ q < w.heap.size := by
 rcases hq with hq | ⟨i, hi, hq⟩
 ·exact ⟨fun e => h.rb (by rw [<- e]; exact hq), (h.row.lt q hq).2⟩
 ·exact ⟨(h.far i hi q hq).1, (h.far i hi q hq).2.2⟩
theorem Went.fp {w w' : World} {bk m : Nat} {R : Value} {p p' : Nat -> Pg} (h : Went w w' bk m R p p') {q : Nat} (hq : Fp R p' m q) : Fp R p m q \/ w.heap.size <= q := by
 rcases hq with hq | ⟨i, hi, hq⟩
 ·exact .inl (.inl hq)
 ·exact (h.2.2 i hi q hq).imp (fun h' => .inr ⟨i, hi, h'⟩) id
theorem Went.far {w w' : World} {bk m : Nat} {R : Value} {p p' : Nat -> Pg} (h : Went w w' bk m R p p') {q : Nat} (hq : ¬ Fp R p m q) (hl : q < w.heap.size) : w'.heap[q]? = w.heap[q]? :=
 h.2.1.block q hl (fun e => hq (.inl e)) (fun i hi e => hq (.inr ⟨i, hi, e⟩))
structure Mine (w : World) (bk m : Nat) (R : Value) (p : Nat -> Pg) (L : Value) (n : Nat) (f : Nat -> Nat) : Prop where
 own : w.ownsRow 0 5 1 L n (bcells f n)
 le : n <= 1048576
 apart : ∀ q, L.ownBlock = some q -> q ≠ bk /\ ¬ Fp R p m q
def More (w w' : World) (bk m k : Nat) (R : Value) (p : Nat -> Pg) (L : Value) (s : Nat) : Prop :=
 ∃ R' P, P.s = s /\ KindAt w' bk (m + 1) R' (upd p m P) /\ w'.cell? ⟨bk, 6, none⟩ = some (.int .i64 ((k : Int) + 1)) /\ (∀ i, i ≠ 6 -> i ≠ 7 -> w'.cell? ⟨bk, i, none⟩ = w.cell? ⟨bk, i, none⟩) /\ (∀ q, Fp R' (upd p m P) (m + 1) q -> Fp R p m q \/ L.ownBlock = some q \/ w.heap.size <= q) /\
  w.heap.size <= w'.heap.size /\ w'.os = w.os /\ w'.tape = w.tape /\ w'.output = w.output /\ ∀ q, q < w.heap.size -> q ≠ bk -> ¬ Fp R p m q -> L.ownBlock ≠ some q -> w'.heap[q]? = w.heap[q]?
theorem fp_push {R R' L : Value} {p : Nat -> Pg} {P : Pg} {m z : Nat} (hR : ∀ q, R'.ownBlock = some q -> R.ownBlock = some q \/ z <= q) (hP : ∀ q, P.has q -> L.ownBlock = some q \/ z <= q) : ∀ q, Fp R' (upd p m P) (m + 1) q -> Fp R p m q \/ L.ownBlock = some q \/ z <= q := by
 rintro q (hq | ⟨i, hi, hq⟩)
 ·exact (hR q hq).imp .inl .inr
 ·by_cases e : i = m
  ·subst e
   rw [upd_same] at hq
   exact .inr (hP q hq)
  ·rw [upd_other _ _ _ _ e] at hq
   exact .inl (.inr ⟨i, by omega, hq⟩)
theorem more_keep {w w' : World} {bk m k n : Nat} {R L : Value} {p : Nat -> Pg} {f : Nat -> Nat} (h : KindAt w bk m R p) (hL : Mine w bk m R p L n f) (hk : k < 900) (ho : KeepOut w bk k m 0 L n f R (pages p m) w') : More w w' bk m k R p L 0 := by
 obtain ⟨g6, c6, gw, cw, c0, c1, hrow, hW, n1, n2, n3, ci, cf, hz, os, tp, ou, hblk⟩ := ho
 have hbk := h.lt
 have hgw := hW.lt gw rfl
 have hLl : ∀ q, L.ownBlock = some q -> q < w.heap.size := fun q hq => (hL.own.lt q hq).2
 have hRl : ∀ q, R.ownBlock = some q -> q < w.heap.size := fun q hq => (h.row.lt q hq).2
 have hLR : ∀ q, L.ownBlock = some q -> R.ownBlock ≠ some q := fun q hq e => (hL.apart q hq).2 (.inl e)
 have hhas : ∀ q, (⟨L, n, .slice none 0 0, .slice (some ⟨gw, 0, none⟩) n cw, k + 1, 0, f⟩ : Pg).has q -> L.ownBlock = some q \/ q = gw := by
  intro q hq
  rcases hq with hq | hq | hq
  ·exact .inl hq
  ·cases hq
  ·injection hq with hq; exact .inr hq.symm
 have hg6 : ∀ q, L.ownBlock = some q -> g6 ≠ q := by
  intro q hq e
  subst e
  rcases n3 with h' | h'
  ·exact hLR g6 hq h'.symm
  ·have := hLl g6 hq; omega
 refine ⟨_, ⟨L, n, .slice none 0 0, .slice (some ⟨gw, 0, none⟩) n cw, k + 1, 0, f⟩, rfl, h.push c1 cf ?_ ?_ ?_ hz ?_ ?_, c0, ci, fp_push ?_ ?_, hz, os, tp, ou, fun q h1 h2 h3 _ => hblk q h1 h2 (fun e => h3 (.inl e))⟩
 ·have e : (⟨L, n, .slice none 0 0, .slice (some ⟨gw, 0, none⟩) n cw, k + 1, 0, f⟩ : Pg).cells = [L, .slice none 0 0, .slice (some ⟨gw, 0, none⟩) n cw, .int .i64 ((k : Int) + 1), .bool false] := by simp [Pg.cells]
  rw [e]
  exact hrow
 ·intro q hq
  injection hq with hq
  have hq : g6 = q := hq
  subst hq
  refine ⟨n1, fun hh => ?_, n3.imp Eq.symm id⟩
  rcases hhas g6 hh with h' | h'
  ·exact hg6 g6 h' rfl
  ·exact n2 h'
 ·refine ⟨hL.le, by show k + 1 < 1000; omega, fun _ => ⟨?_, rfl, hW.mono (Nat.zero_le _), fun q hq e => ?_, gw, cw, rfl⟩, fun e => by simp at e, fun e => by simp at e, by simp⟩
  ·exact row_far hL.own (fun q hq => hblk q (hLl q hq) (hL.apart q hq).1 (hLR q hq))
  ·injection e with e
   have e : gw = q := e
   have := hLl q hq
   omega
 ·intro i hi q hq
  exact hblk q (h.far i hi q hq).2.2 (h.far i hi q hq).1 (h.far i hi q hq).2.1
 ·intro q hq
  rcases hhas q hq with h' | h'
  ·exact ⟨(hL.apart q h').1, by have := hLl q h'; omega, fun i hi e => (hL.apart q h').2 (.inr ⟨i, hi, e⟩)⟩
  ·subst h'
   exact ⟨by omega, hgw.2, fun i hi hq => by have := (h.far i hi q hq).2.2; omega⟩
 ·intro q hq
  injection hq with hq
  have hq : g6 = q := hq
  subst hq
  exact n3.imp Eq.symm id
 ·intro q hq
  exact (hhas q hq).imp id (fun e => by omega)
theorem keep_more {w : World} {bk m k n : Nat} {R L : Value} {p : Nat -> Pg} {f : Nat -> Nat} (h : KindAt w bk m R p) (c0 : w.cell? ⟨bk, 6, none⟩ = some (.int .i64 (k : Int))) (hL : Mine w bk m R p L n f) (hk : k < 900) (hm : m < 96) :
  Calls Tryz.prog 112 #[.pointer (some ⟨bk, 6, none⟩), L] w fun e w' => e = .returned (.tuple #[]) /\ More w w' bk m k R p L 0 := by
 obtain ⟨pa, pc, rfl, _⟩ := book_row h
 have hpb : ∀ q, (Value.slice pa m pc).ownBlock = some q -> q ≠ bk := fun q hq e => h.rb (by rw [<- e]; exact hq)
 rcases LShows.of_own hL.own with ⟨hn0, hL0⟩ | ⟨gb, cap, hL0, hgl, hc⟩
 ·subst hL0 hn0
  refine (keep_none none 0 (fun _ => rfl) bk k 0 f hk w m pc pa (pages p m) (Nat.zero_le _) hm c0 h.c1 (h.fz 6) (h.fz 7) h.row hpb).mono ?_
  rintro e w' ⟨rfl, ho⟩
  exact ⟨rfl, more_keep h hL hk ho⟩
 ·subst hL0
  by_cases hn : 0 < n
  ·refine (keep_bytes bk k n cap gb 0 f hk hL.le hn w m pc pa (pages p m) (Nat.zero_le _) hm c0 h.c1 (h.fz 6) (h.fz 7) hgl hc h.row hpb).mono ?_
   rintro e w' ⟨rfl, ho⟩
   exact ⟨rfl, more_keep h hL hk ho⟩
  ·have hn : n = 0 := by omega
   subst hn
   refine (keep_none (some ⟨gb, 0, none⟩) cap (fun e => by cases e) bk k 0 f hk w m pc pa (pages p m) (Nat.zero_le _) hm c0 h.c1 (h.fz 6) (h.fz 7) h.row hpb).mono ?_
   rintro e w' ⟨rfl, ho⟩
   exact ⟨rfl, more_keep h hL hk ho⟩
theorem more_write {w w' : World} {bk m k n gb : Nat} {R L : Value} {p : Nat -> Pg} {f : Nat -> Nat} (h : KindAt w bk m R p) (hL : Mine w bk m R p L n f) (hk : k < 900) (ho : WriteOut w bk k m 0 0 gb n L R (pages p m) w') (hgb : (n = 0 /\ L = .slice none 0 0 /\ gb = w.heap.size) \/ ∃ cap, L = .slice (some ⟨gb, 0, none⟩) n cap /\ gb < w.heap.size) : More w w' bk m k R p L 2 := by
 obtain ⟨g6, c6, v, c0, c1, hrow, hV, hlst, n1, n2, n3, n4, n5, n6, ci, cf, hz, os, tp, ou, hblk⟩ := ho
 have hbk := h.lt
 have hLl : ∀ q, L.ownBlock = some q -> q < w.heap.size := fun q hq => (hL.own.lt q hq).2
 have hLg : ∀ q, L.ownBlock = some q -> q = gb := by
  intro q hq
  rcases hgb with ⟨_, rfl, _⟩ | ⟨cap, rfl, _⟩
  ·cases hq
  ·injection hq with hq; exact hq.symm
 have hgL : ∀ q, q = gb -> L.ownBlock = some q \/ w.heap.size <= q := by
  rintro q rfl
  rcases hgb with ⟨_, rfl, h'⟩ | ⟨cap, rfl, _⟩
  ·exact .inr (by omega)
  ·exact .inl rfl
 have hvL : ∀ q, v.ownBlock = some q -> L.ownBlock = some q \/ w.heap.size <= q := by
  intro q hq
  rcases n5 with h' | h'
  ·rw [h'] at hq
   injection hq with hq
   exact hgL q hq.symm
  ·exact .inr (h' q hq)
 have hhas : ∀ q, (⟨L, n, v, .slice none 0 0, k + 1, 2, f⟩ : Pg).has q -> L.ownBlock = some q \/ w.heap.size <= q := by
  intro q hq
  rcases hq with hq | hq | hq
  ·exact .inl hq
  ·exact hvL q hq
  ·cases hq
 refine ⟨_, ⟨L, n, v, .slice none 0 0, k + 1, 2, f⟩, rfl, h.push c1 cf ?_ ?_ ?_ hz ?_ ?_, c0, ci, fp_push ?_ hhas, hz, os, tp, ou, fun q h1 h2 h3 h4 => hblk q h1 h2 (fun e => by rcases hgL q e with h' | h'; exact h4 h'; omega) (fun e => h3 (.inl e))⟩
 ·have e : (⟨L, n, v, .slice none 0 0, k + 1, 2, f⟩ : Pg).cells = [L, v, .slice none 0 0, .int .i64 ((k : Int) + 1), .bool true] := by simp [Pg.cells]
  rw [e]
  exact hrow
 ·intro q hq
  injection hq with hq
  have hq : g6 = q := hq
  subst hq
  refine ⟨n1, fun hh => ?_, n6.imp Eq.symm id⟩
  rcases hh with hh | hh | hh
  ·exact n2 (hLg g6 hh)
  ·exact n3 hh
  ·cases hh
 ·refine ⟨hL.le, by show k + 1 < 1000; omega, fun e => by simp at e, fun e => by simp at e, fun _ => ⟨?_, hV⟩, by simp⟩
  rcases hgb with ⟨h1, h2, _⟩ | ⟨cap, h1, h2⟩
  ·exact .inl ⟨h1, h2⟩
  ·exact .inr ⟨gb, cap, h1, by omega, hlst⟩
 ·intro i hi q hq
  have hf := h.far i hi q hq
  exact hblk q hf.2.2 hf.1 (fun e => by rcases hgL q e with h' | h'; exact (hL.apart q h').2 (.inr ⟨i, hi, hq⟩); omega) hf.2.1
 ·intro q hq
  rcases hhas q hq with h' | h'
  ·exact ⟨(hL.apart q h').1, by have := hLl q h'; omega, fun i hi e => (hL.apart q h').2 (.inr ⟨i, hi, e⟩)⟩
  ·refine ⟨by omega, ?_, fun i hi hq => by have := (h.far i hi q hq).2.2; omega⟩
   rcases hq with hq | hq | hq
   ·have := hLl q hq; omega
   ·exact (hV.lt q hq).2
   ·cases hq
 ·intro q hq
  injection hq with hq
  have hq : g6 = q := hq
  subst hq
  exact n6.imp Eq.symm id
theorem write_more {w : World} {bk m k n : Nat} {R L : Value} {p : Nat -> Pg} {f : Nat -> Nat} (h : KindAt w bk m R p) (c0 : w.cell? ⟨bk, 6, none⟩ = some (.int .i64 (k : Int))) (hL : Mine w bk m R p L n f) (hk : k < 900) (hm : m < 96) :
  Calls Tryz.prog 113 #[.pointer (some ⟨bk, 6, none⟩), L] w fun e w' => e = .returned (.tuple #[]) /\ More w w' bk m k R p L 2 := by
 obtain ⟨pa, pc, rfl, _⟩ := book_row h
 have hpb : ∀ q, (Value.slice pa m pc).ownBlock = some q -> q ≠ bk := fun q hq e => h.rb (by rw [<- e]; exact hq)
 rcases LShows.of_own hL.own with ⟨hn0, hL0⟩ | ⟨gb, cap, hL0, hgl, hc⟩
 ·subst hL0 hn0
  refine (write_none bk k 0 0 hk w m pc pa (pages p m) (Nat.zero_le _) (Nat.zero_le _) hm c0 h.c1 (h.fz 6) (h.fz 7) h.row hpb).mono ?_
  rintro e w' ⟨rfl, ho⟩
  exact ⟨rfl, more_write h hL hk ho (.inl ⟨rfl, rfl, rfl⟩)⟩
 ·subst hL0
  have hap := hL.apart gb rfl
  refine (write_some bk k n cap gb 0 0 f hk hL.le w m pc pa (pages p m) (Nat.zero_le _) (Nat.zero_le _) hm c0 h.c1 (h.fz 6) (h.fz 7) hgl hap.1 hL.own (fun j _ => hL.own.frozenAt j) h.row (fun q hq => ⟨hpb q hq, fun e => hap.2 (.inl (by rw [<- e]; exact hq))⟩)).mono ?_
  rintro e w' ⟨rfl, ho⟩
  exact ⟨rfl, more_write h hL hk ho (.inr ⟨cap, rfl, hgl⟩)⟩
theorem keep_full (bk m pc : Nat) (pa : Option Addr) (hm : 96 <= m) (w : World) (hk1 : w.cell? ⟨bk, 7, none⟩ = some (.slice pa m pc)) (L : Value) : Calls Tryz.prog 112 #[.pointer (some ⟨bk, 6, none⟩), L] w fun e w' => e = .returned (.tuple #[]) /\ w' = w := by
 have hI1 : ¬ (m : Int) < 96 := by omega
 go_enter Tryz.func112, Tryz.ntmps112
 go_wp2_with fail
 go_end0
 exact ⟨rfl, rfl⟩
theorem write_full (bk m pc : Nat) (pa : Option Addr) (hm : 96 <= m) (w : World) (hk1 : w.cell? ⟨bk, 7, none⟩ = some (.slice pa m pc)) (L : Value) : Calls Tryz.prog 113 #[.pointer (some ⟨bk, 6, none⟩), L] w fun e w' => e = .returned (.tuple #[]) /\ w' = w := by
 have hI1 : ¬ (m : Int) < 96 := by omega
 go_enter Tryz.func113, Tryz.ntmps113
 go_wp2_with fail
 go_end0
 exact ⟨rfl, rfl⟩
end Go.Proofs.YtpeohbkigkfcgaaGreatDoor.Kp
namespace Go.Proofs.YtpeohbkigkfcgaaGreatDoor.Kt
open Go Go.ChangeShapes Go.WideShapes Go.ChangeAt Go.RowKit
theorem setCell_drewN (w : World) (n : Nat) (a : Addr) (v : Value) : (w.drewN n).setCell a v = (w.setCell a v).drewN n := rfl
theorem alloc_drewN (w : World) (n : Nat) (o : Obj) : (w.drewN n).alloc o = (w.alloc o).drewN n := rfl
theorem bal {w W : World} (h : Below w.heap.size w W) (o : Obj) : Below w.heap.size w (W.alloc o) := h.alloc h.size o
theorem below_drewN {B : Nat} {a w : World} (h : Below B a w) (n : Nat) : Below B a (w.drewN n) := ⟨h.os, h.tape, h.output, h.size, h.block⟩
theorem step_below {B : Nat} {a W w1 : World} (h : Below B a W) (hB : B <= a.heap.size) (hb : Below W.heap.size W w1) : Below B a w1 := h.trans (hb.mono (Nat.le_trans hB h.size))
theorem keep1 {W w1 : World} (hb : Below W.heap.size W w1) {b o : Nat} {v : Value} (h : b < W.heap.size) (hv : W.cell? ⟨b, o, none⟩ = some v) : w1.cell? ⟨b, o, none⟩ = some v := (hb.cell (p := ⟨b, o, none⟩) h).trans hv
theorem keepF {W w1 : World} (hb : Below W.heap.size W w1) {b o : Nat} {v : Bool} (h : b < W.heap.size) (hv : W.frozen? ⟨b, o, none⟩ = v) : w1.frozen? ⟨b, o, none⟩ = v := (hb.frozen (p := ⟨b, o, none⟩) h).trans hv
theorem drew_two (w : World) (m n : Nat) : (w.drewN m).drewN n = w.drewN (m + n) := World.drewN_drewN w m n
theorem info9 : (Tryz.prog.info? 9).map (fun i => (i.zero, i.size, i.bytes)) = some (some (.string ⟨#[]⟩), 1, 16) := by kernel_rfl
theorem info_parts {t : TypeId} {z : Value} {a b : Nat} (h : (Tryz.prog.info? t).map (fun i => (i.zero, i.size, i.bytes)) = some (some z, a, b)) : ∃ i, Tryz.prog.info? t = some i /\ i.zero = some z /\ i.size = a /\ i.bytes = b := by
 obtain ⟨i, hi, hz⟩ := Option.map_eq_some_iff.1 h
 simp only [Prod.mk.injEq] at hz
 exact ⟨i, hi, hz.1, hz.2.1, hz.2.2⟩
theorem own_open {w : World} {base size n : Nat} {e : TypeId} {v : Value} {xs : List Value} (h : w.ownsRow base e size v n xs) (hn : 0 < n) : ∃ g c, v = .slice (some ⟨g, 0, none⟩) n c := by
 rcases h.2 with ⟨_, h0⟩ | ⟨g, cap, cur, rfl, _⟩
 ·omega
 ·exact ⟨g, cap, rfl⟩
theorem cell_one_new (w : World) (v : Value) (t : TypeId) : ∀ j u, ([v] : List Value)[j]? = some u -> (w.alloc (.cells #[v] t)).cell? ((⟨w.heap.size, 0, none⟩ : Addr).add j) = some u := by
 intro j u hj
 rw [Addr.add_mid, Nat.zero_add, World.cell?_alloc_mark]
 simpa using hj
theorem one_one (s : ByteArray) : ∀ u ∈ ([.string s] : List Value), u.oneCell' = true := by
 intro u hu
 simp at hu
 subst hu
 rfl
def scells (f : Nat -> ByteArray) (n : Nat) : List Value := (List.range n).map fun i => .string (f i)
theorem scells_len (f : Nat -> ByteArray) (n : Nat) : (scells f n).length = n := by simp [scells]
theorem scells_succ (f : Nat -> ByteArray) (n : Nat) : scells f (n + 1) = scells f n ++ [.string (f n)] := by simp [scells, List.range_succ]
theorem scells_get (f : Nat -> ByteArray) (n j : Nat) (h : j < n) : (scells f n)[j]? = some (.string (f j)) := by simp [scells, h]
theorem scells_get' {f : Nat -> ByteArray} {n j : Nat} {u : Value} (h : (scells f n)[j]? = some u) : j < n /\ u = .string (f j) := by
 by_cases hj : j < n
 ·rw [scells_get f n j hj] at h
  exact ⟨hj, (Option.some.inj h).symm⟩
 ·rw [List.getElem?_eq_none (by rw [scells_len]; omega)] at h
  cases h
theorem scells_one (f : Nat -> ByteArray) (n : Nat) : ∀ u ∈ scells f n, u.oneCell' = true := by
 intro u hu
 simp only [scells, List.mem_map] at hu
 obtain ⟨i, _, rfl⟩ := hu
 rfl
theorem scells_ext {f g : Nat -> ByteArray} (n : Nat) (h : ∀ i, i < n -> f i = g i) : scells f n = scells g n := by
 induction n with
 | zero => rfl
 | succ n ih => rw [scells_succ, scells_succ, ih (fun i hi => h i (by omega)), h n (by omega)]
def cat {α : Type} (f : Nat -> α) (n : Nat) (g : Nat -> α) : Nat -> α := fun i => if i < n then f i else g (i - n)
theorem cat_lt {α : Type} {f g : Nat -> α} {n i : Nat} (h : i < n) : cat f n g i = f i := by simp [cat, h]
theorem cat_ge {α : Type} {f g : Nat -> α} {n : Nat} (i : Nat) : cat f n g (n + i) = g i := by
 have : ¬ n + i < n := by omega
 simp only [cat, if_neg this, Nat.add_sub_cancel_left]
theorem grown_of_below {w w' : World} (h : Below w.heap.size w w') : w.grownBy w' none := ⟨h.os, h.tape, h.output, h.size, fun k hk _ => h.block k hk⟩
theorem own_below {w w' : World} {base size n : Nat} {e : TypeId} {v : Value} {xs : List Value} (h : w.ownsRow base e size v n xs) (hb : Below w.heap.size w w') : w'.ownsRow base e size v n xs :=
 h.kept (grown_of_below hb) (by cases hv : v.ownBlock <;> simp)
theorem sameTexts_some (f : Nat -> ByteArray) (a c n ca cc : Nat) (hn : n <= 4096) (w : World) (h1 : Hid (∀ k, k < n -> w.cell? ⟨a, k, none⟩ = some (.string (f k)))) (h2 : Hid (∀ k, k < n -> w.cell? ⟨c, k, none⟩ = some (.string (f k)))) :
  Calls Tryz.prog 117 #[.slice (some ⟨a, 0, none⟩) n ca, .slice (some ⟨c, 0, none⟩) n cc] w fun e w' => e = .returned (.bool true) /\ ∃ m, w' = w.drewN m := by
 go_enter Tryz.func117, Tryz.ntmps117
 go_wp2_with fail
 go_loopw [5] (fun i wr => ∃ (k m : Nat), k <= n /\ i = .int .i64 (k : Int) /\ wr = w.drewN m) (fun i _ => n - (intOf i).toNat)
 case atStart => exact ⟨0, 0, by omega, rfl, rfl⟩
 case round =>
  obtain ⟨k, m, hk, rfl, hw⟩ := hrel
  have HW := hide hw
  by_cases hlt : k < n
  ·have l1 : wr.cell? ⟨a, k, none⟩ = some (.string (f k)) := by rw [hw]; exact uh h1 k hlt
   have l2 : wr.cell? ⟨c, k, none⟩ = some (.string (f k)) := by rw [hw]; exact uh h2 k hlt
   have hI : (k : Int) < (n : Int) := by omega
   have hI0 : (0 : Int) <= (k : Int) := by omega
   clear hw
   go_wp2_with fail
   go_quiet (fail)
   go_wp2_with fail
   go_roundw
   case rel => exact ⟨k + 1, m + nq, by omega, by go_num, by rw [uh HW]; exact drew_two _ _ _⟩
   case measure => simp [intOf]; omega
  ·have hkn : k = n := by omega
   subst hkn
   have hI : ¬ (k : Int) < (k : Int) := by omega
   clear hw
   go_wp2_with fail
   go_ret
   exact ⟨rfl, m, uh HW⟩
end Go.Proofs.YtpeohbkigkfcgaaGreatDoor.Kt
