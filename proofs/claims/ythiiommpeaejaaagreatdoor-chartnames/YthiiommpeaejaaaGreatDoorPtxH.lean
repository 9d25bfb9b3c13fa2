/- The keeper's book: WriteBytes (28) of a list that is there. -/
import Derived.Test.YthiiommpeaejaaaGreatDoorPtxE
namespace Go.Proofs.YthiiommpeaejaaaGreatDoor
open Go Go.ChangeShapes Go.WideShapes Go.ChangeAt Go.RowKit
set_option linter.unusedVariables false
attribute [local go_sem] setCell_drewN alloc_drewN
/-- what WriteBytes leaves: the next number, one page more, the list written over, a longer one made of it; the rest stands -/
def WriteOut (w : World) (bk k m B C gb n : Nat) (L old : Value) (xs : List Value) (w' : World) : Prop :=
  ∃ g6 c6 v, w'.cell? ⟨bk, 0, none⟩ = some (.int .i64 ((k : Int) + 1)) ∧ w'.cell? ⟨bk, 4, none⟩ = some (.slice (some ⟨g6, 0, none⟩) (m + 1) c6) ∧
    w'.ownsRow B 68 5 (.slice (some ⟨g6, 0, none⟩) (m + 1) c6) (m + 1) (xs ++ [L, v, .slice none 0 0, .int .i64 ((k : Int) + 1), .bool true]) ∧
    w'.ownsRow C 9 1 v (n + 64) (scells (cat (mkS (k + 1)) n (mkS (k + 1 + 100000))) (n + 64)) ∧ (∀ j, j < n → w'.cell? ⟨gb, j, none⟩ = some (.string (mkS (k + 1) j))) ∧
    g6 ≠ bk ∧ g6 ≠ gb ∧ v.ownBlock ≠ some g6 ∧ v.ownBlock ≠ some bk ∧ (v.ownBlock = some gb ∨ ∀ q, v.ownBlock = some q → w.heap.size ≤ q) ∧ (some g6 = old.ownBlock ∨ w.heap.size ≤ g6) ∧
    (∀ i, i ≠ 0 → i ≠ 4 → w'.cell? ⟨bk, i, none⟩ = w.cell? ⟨bk, i, none⟩) ∧ (∀ i, w'.frozen? ⟨bk, i, none⟩ = w.frozen? ⟨bk, i, none⟩) ∧
    w.heap.size ≤ w'.heap.size ∧ w'.os = w.os ∧ w'.tape = w.tape ∧ w'.output = w.output ∧ ∀ q, q < w.heap.size → q ≠ bk → q ≠ gb → old.ownBlock ≠ some q → w'.heap[q]? = w.heap[q]?
theorem write_out {w w3 w6 : World} {bk k m B C gb n g6 c6 : Nat} {L old u v : Value} {xs : List Value} {o : Obj} (hbk : bk < w.heap.size) (hgb : gb < w3.heap.size) (hgk : gb ≠ bk) (hold : ∀ q, old.ownBlock = some q → (q ≠ bk ∧ q ≠ gb) ∧ q < w.heap.size)
    (c0 : w3.cell? ⟨bk, 0, none⟩ = some (.int .i64 ((k : Int) + 1))) (ci : ∀ i, i ≠ 0 → i ≠ 4 → w3.cell? ⟨bk, i, none⟩ = w.cell? ⟨bk, i, none⟩) (cf : ∀ i, w3.frozen? ⟨bk, i, none⟩ = w.frozen? ⟨bk, i, none⟩)
    (r3 : ∀ q, q < w.heap.size → q ≠ bk → q ≠ gb → w3.heap[q]? = w.heap[q]?) (hz3 : w.heap.size + 1 ≤ w3.heap.size) (own3 : w3.ownsRow C 9 1 v (n + 64) (scells (cat (mkS (k + 1)) n (mkS (k + 1 + 100000))) (n + 64)))
    (lst3 : ∀ j, j < n → w3.cell? ⟨gb, j, none⟩ = some (.string (mkS (k + 1) j))) (hv : v.ownBlock = some gb ∨ ∀ q, v.ownBlock = some q → w.heap.size ≤ q) (os3 : w3.os = w.os) (tp3 : w3.tape = w.tape) (ou3 : w3.output = w.output)
    (t6 : w6.cell? ⟨bk, 4, none⟩ = some u) (G6 : (w3.alloc o).drew.grownBy w6 old.ownBlock)
    (O6 : w6.ownsRow B 68 5 (.slice (some ⟨g6, 0, none⟩) (m + 1) c6) (m + 1) (xs ++ [L, v, .slice none 0 0, .int .i64 ((k : Int) + 1), .bool true]))
    (A6 : some g6 = old.ownBlock ∨ g6 = (w3.alloc o).drew.heap.size) :
    WriteOut w bk k m B C gb n L old xs (w6.setCell ⟨bk, 4, none⟩ (.slice (some ⟨g6, 0, none⟩) (m + 1) c6)) := by
  have hsz : (w3.alloc o).drew.heap.size = w3.heap.size + 1 := by simp
  rw [hsz] at A6
  have hs6 := G6.size
  rw [hsz] at hs6
  have hne6 : g6 ≠ bk ∧ g6 ≠ gb := by
    rcases A6 with h | h
    · exact (hold g6 h.symm).1
    · omega
  have hvo : ∀ q, v.ownBlock = some q → q ≠ bk ∧ q ≠ g6 ∧ q < w3.heap.size ∧ some q ≠ old.ownBlock := by
    intro q hq
    have h1 := (own3.lt q hq).2
    rcases hv with h | h
    · rw [h] at hq
      injection hq with hq
      subst hq
      refine ⟨hgk, hne6.2.symm, h1, fun e => (hold _ e.symm).1.2 rfl⟩
    · have h2 := h q hq
      refine ⟨by omega, ?_, h1, fun e => by have := (hold _ e.symm).2; omega⟩
      rcases A6 with h' | h'
      · have := (hold g6 h'.symm).2
        omega
      · omega
  have hblk : ∀ q, q < w3.heap.size → q ≠ bk → some q ≠ old.ownBlock → (w6.setCell ⟨bk, 4, none⟩ (.slice (some ⟨g6, 0, none⟩) (m + 1) c6)).heap[q]? = w3.heap[q]? := by
    intro q hq h1 h2
    rw [Below.heap_setCell _ _ _ _ h1, G6.block q (by rw [hsz]; omega) h2]
    exact Below.heap_alloc w3 _ _ hq
  have hcell : ∀ i, i ≠ 4 → (w6.setCell ⟨bk, 4, none⟩ (.slice (some ⟨g6, 0, none⟩) (m + 1) c6)).cell? ⟨bk, i, none⟩ = w3.cell? ⟨bk, i, none⟩ := by
    intro i h1
    rw [World.cell?_setCell_other _ _ _ _ (by intro h'; injection h' with _ h' _; omega), G6.cell_far ⟨bk, i, none⟩ (by rw [hsz]; show bk < _; omega) (fun e => (hold bk e.symm).1.1 rfl)]
    exact World.cell?_alloc_lt w3 _ _ (by show bk < _; omega)
  refine ⟨g6, c6, v, (hcell 0 (by omega)).trans c0, World.cell?_setCell_same _ _ _ t6, row_far O6 ?_, row_far own3 ?_, fun j hj => ?_, hne6.1, hne6.2, fun e => (hvo g6 e).2.1 rfl, fun e => (hvo bk e).1 rfl, hv, A6.imp id (fun h => by omega), fun i hi hi4 => (hcell i hi4).trans (ci i hi hi4), fun i => ?_, by simp; omega, ?_, ?_, ?_, fun q hq h1 h2 h3 => ?_⟩
  · intro q hq
    injection hq with hq
    have hq : g6 = q := hq
    subst hq
    exact Below.heap_setCell _ _ _ _ hne6.1
  · intro q hq
    obtain ⟨h1, _, h3, h4⟩ := hvo q hq
    exact hblk q h3 h1 h4
  · rw [World.cell?_of_block (hblk gb (by omega) hgk (fun e => (hold gb e.symm).1.2 rfl))]
    exact lst3 j hj
  · rw [← cf i]
    have h := (G6.frozen_far ⟨bk, i, none⟩ (by rw [hsz]; show bk < _; omega) (fun e => (hold bk e.symm).1.1 rfl)).trans (World.frozen?_alloc_past (w := w3) o bk i (by omega))
    simpa using h
  · exact G6.os.trans os3
  · exact G6.tape.trans tp3
  · exact G6.output.trans ou3
  · rw [hblk q (by omega) h1 (fun e => h3 e.symm)]
    exact r3 q hq h1 h2
set_option maxRecDepth 100000 in
set_option maxHeartbeats 8000000 in
theorem write_some (bk k n cap gb B C : Nat) (f : Nat → ByteArray) (hk : k < 900) (hn : n ≤ 4096) (w : World) (m pc : Nat) (pa : Option Addr) (xs : List Value) (hB : B ≤ w.heap.size) (hC : C ≤ w.heap.size) (hm : m < 96) (hk0 : w.cell? ⟨bk, 0, none⟩ = some (.int .i64 (k : Int))) (hk1 : w.cell? ⟨bk, 4, none⟩ = some (.slice pa m pc)) (hf0 : w.frozen? ⟨bk, 0, none⟩ = false) (hf1 : w.frozen? ⟨bk, 4, none⟩ = false)
    (hP : Pw w) (h3 : bk ≠ 3 ∧ gb ≠ 3) (hgb : gb < w.heap.size) (hgk : gb ≠ bk) (hL : w.ownsRow C 9 1 (.slice (some ⟨gb, 0, none⟩) n cap) n (scells f n)) (hLf : ∀ j, j < n → w.frozen? ⟨gb, j, none⟩ = false) (hp : w.ownsRow B 68 5 (.slice pa m pc) m xs) (hpb : ∀ q, (Value.slice pa m pc).ownBlock = some q → q ≠ bk ∧ q ≠ gb) :
    Calls Tryz.prog 18 #[.pointer (some ⟨bk, 0, none⟩), .slice (some ⟨gb, 0, none⟩) n cap] w fun e w' => e = .returned (.tuple #[]) ∧ WriteOut w bk k m B C gb n (.slice (some ⟨gb, 0, none⟩) n cap) (.slice pa m pc) xs w' := by
  have hI1 : (m : Int) < 96 := by omega
  have hbk : bk < w.heap.size := World.block_lt_of_cell? w ⟨bk, 4, none⟩ hk1
  have hid := hide (id_any bk k (by omega) w hk0 hf0)
  have HW : Hid (∃ W1, W1 = (w.setCell ⟨bk, 0, none⟩ (.int .i64 ((k : Int) + 1))).alloc (.cells #[.slice (some ⟨gb, 0, none⟩) n cap, .slice none 0 0, .slice none 0 0, .int .i64 ((k : Int) + 1), .bool false] 68)) := ⟨_, rfl⟩
  obtain ⟨W1, hW1⟩ := unhide HW
  have hs1 : (w.setCell ⟨bk, 0, none⟩ (.int .i64 ((k : Int) + 1))).heap.size = w.heap.size := by simp
  have hz1 : W1.heap.size = w.heap.size + 1 := by rw [hW1]; simp
  have hpc : ∀ j, W1.cell? ⟨w.heap.size, j, none⟩ = (#[.slice (some ⟨gb, 0, none⟩) n cap, .slice none 0 0, .slice none 0 0, .int .i64 ((k : Int) + 1), .bool false] : Array Value)[j]? := by
    intro j
    rw [hW1, ← hs1, World.cell?_alloc_mark]
  have hpf : ∀ j, W1.frozen? ⟨w.heap.size, j, none⟩ = false := by
    intro j
    rw [hW1]
    exact World.frozen?_alloc_at _ _ _ _ hs1.symm
  have hblk : ∀ q, q < w.heap.size → q ≠ bk → W1.heap[q]? = w.heap[q]? := by
    intro q hq h1
    rw [hW1, Below.heap_alloc _ _ _ (by simpa using hq), Below.heap_setCell _ _ _ _ h1]
  have hL1 : W1.ownsRow C 9 1 (.slice (some ⟨gb, 0, none⟩) n cap) n (scells f n) := row_far hL (fun q hq => by injection hq with hq; have hq : gb = q := hq; subst hq; exact hblk gb hgb hgk)
  have PW1 := hide (hP.keep (hblk 3 hP.lt (fun e => h3.1 e.symm)))
  have h3w : w.heap.size ≠ 3 := by have := hP.lt; omega
  have HLT := hide hP.lt
  have hfill := hide (fill_some w.heap.size 0 gb n cap (k + 1) f hn (by omega) W1 (by omega) (hpc 0) ((hpc 3).trans (by simp)) ⟨_, hpc 4⟩ (hpf 4) (fun j hj => by rw [hL1.cellAt j (by omega)]; exact scells_get _ _ _ hj) (fun j hj => by rw [World.frozen?_of_block (hblk gb hgb hgk)]; exact hLf j hj) (by omega) (unhide PW1) h3.2)
  have HP := hide hp
  have HPB := hide hpb
  have HK1 := hide hk1
  have HF1 := hide hf1
  have HPC := hide hpc
  have HPF := hide hpf
  have HBL := hide hblk
  have HL1 := hide hL1
  have hk1' : W1.cell? ⟨bk, 4, none⟩ = some (.slice pa m pc) := by rw [hW1]; exact load_far (w5 := w) hbk hk1
  have hf1' : W1.frozen? ⟨bk, 4, none⟩ = false := by rw [hW1, World.frozen?_alloc_past _ _ _ (by simpa using hbk)]; simpa using hf1
  have WB : Hid (W1.cell? ⟨bk, 0, none⟩ = some (.int .i64 ((k : Int) + 1)) ∧ (∀ i, i ≠ 0 → i ≠ 4 → W1.cell? ⟨bk, i, none⟩ = w.cell? ⟨bk, i, none⟩) ∧ (∀ i, W1.frozen? ⟨bk, i, none⟩ = w.frozen? ⟨bk, i, none⟩) ∧ W1.os = w.os ∧ W1.tape = w.tape ∧ W1.output = w.output) := by
    rw [hW1]
    refine ⟨(World.cell?_alloc_lt _ _ _ (by simpa using hbk)).trans (World.cell?_setCell_same _ _ _ hk0), fun i hi hi4 => (World.cell?_alloc_lt _ _ _ (by simpa using hbk)).trans (World.cell?_setCell_other _ _ _ _ (by intro h'; injection h' with _ h' _; omega)), fun i => (World.frozen?_alloc_past _ _ _ (by simpa using hbk)).trans (by simp), rfl, rfl, rfl⟩
  have K1' := hide hk1'
  have F1' := hide hf1'
  have HW1 := hide hW1
  clear hp hpb hpc hpf hblk hL1 hk1' hf1' hL hLf hW1 hf1
  go_enter Tryz.func18, Tryz.ntmps18
  go_wp2_with fail
  refine (unhide hid).mono ?_
  rintro e w2 ⟨rfl, hw⟩
  rw [hw]
  clear hw
  go_wp2_with fail
  rw [← unhide HW1]
  refine (unhide hfill).mono ?_
  rintro e w2 ⟨rfl, w1, hF, hw2⟩
  have hne : w.heap.size ≠ gb := by omega
  have hgr := hF.gr
  have hz2 : w.heap.size + 1 ≤ w2.heap.size := by rw [hw2]; have := hgr.size; simp; omega
  have hpg2 : ∀ j, j ≠ 4 → w2.cell? ⟨w.heap.size, j, none⟩ = W1.cell? ⟨w.heap.size, j, none⟩ := fun j hj => by
    rw [hw2, World.cell?_setCell_other _ _ _ _ (by intro h'; injection h' with _ h' _; omega)]
    exact hgr.cell_far ⟨w.heap.size, j, none⟩ (by show w.heap.size < _; omega) (by simpa using hne)
  have hpf2 : ∀ j, w2.frozen? ⟨w.heap.size, j, none⟩ = false := fun j => by
    rw [hw2]
    have h := hgr.frozen_far ⟨w.heap.size, j, none⟩ (by show w.heap.size < _; omega) (by simpa using hne)
    simpa using h.trans (unhide HPF j)
  have hp42 : w2.cell? ⟨w.heap.size, 4, none⟩ = some (.bool true) := by
    rw [hw2]
    exact World.cell?_setCell_same _ _ _ ((hgr.cell_far ⟨w.heap.size, 4, none⟩ (by show w.heap.size < _; omega) (by simpa using hne)).trans (unhide HPC 4))
  have hbl2 : ∀ q, q ≠ w.heap.size → q ≠ gb → q < W1.heap.size → w2.heap[q]? = W1.heap[q]? := fun q h1 h2 h3 => by
    rw [hw2, Below.heap_setCell _ _ _ _ h1]
    exact hgr.block q h3 (by simpa using h2)
  have hown2 : w2.ownsRow C 9 1 (.slice (some ⟨gb, 0, none⟩) n cap) n (scells (mkS (k + 1)) n) := by
    rw [hw2]
    exact row_far (hF.own (unhide HL1)) (fun q hq => by injection hq with hq; have hq : gb = q := hq; subst hq; exact Below.heap_setCell _ _ _ _ hne.symm)
  have hgrow := hide (grow_some w.heap.size 0 gb n cap (k + 1) C (by omega) hn w2 (by omega) hne (by omega) ((hpg2 0 (by omega)).trans (unhide HPC 0)) ⟨_, (hpg2 1 (by omega)).trans (unhide HPC 1)⟩ (hpf2 1) (((hpg2 3 (by omega)).trans (unhide HPC 3)).trans (by simp)) ((unhide PW1).keep (hbl2 3 (fun e => h3w e.symm) (fun e => h3.2 e.symm) (by have := unhide HLT; omega))) ⟨h3w, h3.2⟩ hown2)
  have OS2 : Hid (w2.os = W1.os ∧ w2.tape = W1.tape ∧ w2.output = W1.output) := by rw [hw2]; exact ⟨hgr.os, hgr.tape, hgr.output⟩
  have HH := hide (And.intro hpg2 (And.intro hpf2 (And.intro hp42 hbl2)))
  clear hpg2 hpf2 hp42 hbl2 hown2 hgr hF hw2
  go_wp2_with fail
  refine (unhide hgrow).mono ?_
  rintro e w3 ⟨rfl, v, hG⟩
  obtain ⟨hpg2, hpf2, hp42, hbl2⟩ := unhide HH
  have c0 : w3.cell? ⟨w.heap.size, 0, none⟩ = some (.slice (some ⟨gb, 0, none⟩) n cap) := ((hG.page 0 (by omega)).trans (hpg2 0 (by omega))).trans (unhide HPC 0)
  have c1 : w3.cell? ⟨w.heap.size, 1, none⟩ = some v := hG.g
  have c2 : w3.cell? ⟨w.heap.size, 2, none⟩ = some (.slice none 0 0) := ((hG.page 2 (by omega)).trans (hpg2 2 (by omega))).trans (unhide HPC 2)
  have c3 : w3.cell? ⟨w.heap.size, 3, none⟩ = some (.int .i64 ((k : Int) + 1)) := ((hG.page 3 (by omega)).trans (hpg2 3 (by omega))).trans (unhide HPC 3)
  have c4 : w3.cell? ⟨w.heap.size, 4, none⟩ = some (.bool true) := (hG.page 4 (by omega)).trans hp42
  obtain ⟨g3, c3', rfl⟩ := own_open hG.own (by omega)
  have HG := hide hG
  by_cases hkg : bk = gb
  · exact absurd hkg.symm hgk
  have b3 : w3.heap[bk]? = W1.heap[bk]? := (hG.far bk (by omega) (by omega) hkg).trans (hbl2 bk (by omega) hkg (by omega))
  have t1 : w3.cell? ⟨bk, 4, none⟩ = some (.slice pa m pc) := (World.cell?_of_block b3).trans (unhide K1')
  have u1 : w3.frozen? ⟨bk, 4, none⟩ = false := (World.frozen?_of_block b3).trans (unhide F1')
  have r3 : Hid (∀ q, q < w.heap.size → q ≠ bk → q ≠ gb → w3.heap[q]? = w.heap[q]?) := fun q h1 h2 h3 => ((hG.far q (by omega) (by omega) h3).trans (hbl2 q (by omega) h3 (by omega))).trans (unhide HBL q h1 h2)
  have B3 : Hid (w3.heap[bk]? = W1.heap[bk]?) := b3
  have hz3 : w.heap.size + 1 ≤ w3.heap.size := Nat.le_trans hz2 hG.size
  have hb3 : bk < w3.heap.size := by omega
  have t1a := fun o => (World.cell?_alloc_lt w3 o ⟨bk, 4, none⟩ hb3).trans t1
  have u1a := hide (fun o => (World.frozen?_alloc_past (w := w3) o bk 4 hb3).trans u1)
  have U1 := hide u1
  clear hpg2 hpf2 hp42 hbl2 hG u1 b3
  go_wp2_with fail
  go_region_law (first
    | (refine step_append_page _ rfl _ _ rfl B (.slice pa m pc) m xs rfl (row_far (unhide HP) (fun q hq => by have hq1 := ((unhide HP).lt q hq).2; exact (Below.heap_alloc w3 _ _ (by omega)).trans (unhide r3 q hq1 (unhide HPB q hq).1 (unhide HPB q hq).2))) ⟨w3.heap.size, 0, none⟩ 1 [.slice (some ⟨gb, 0, none⟩) n cap, .slice (some ⟨g3, 0, none⟩) (n + 64) c3', .slice none 0 0, .int .i64 ((k : Int) + 1), .bool true] rfl rfl (five_new rfl _ _ _ _ _ _) (by intro u hu; simp at hu; rcases hu with rfl | rfl | rfl | rfl | rfl <;> rfl) (by omega) (by simp; omega) ?_; intro g6 c6 w6 hown6 hgr6 hat6; have O6 := hide hown6; have G6 := hide hgr6; have A6 := hide hat6; have t6 := (hgr6.cell_far ⟨bk, 4, none⟩ (by simp; omega) (fun e => (unhide HPB bk e.symm).1 rfl)).trans (t1a _); have f6 := (hgr6.frozen_far ⟨bk, 4, none⟩ (by simp; omega) (fun e => (unhide HPB bk e.symm).1 rfl)).trans (unhide u1a _); clear hown6 hgr6 hat6))
  all_goals
    go_wp2_with fail
    go_end0
    obtain ⟨wb0, wbi, wbf, wbo, wbt, wbu⟩ := unhide WB
    obtain ⟨o1, o2, o3⟩ := unhide OS2
    refine ⟨rfl, write_out hbk (by omega) hgk (fun q hq => ⟨unhide HPB q hq, ((unhide HP).lt q hq).2⟩) ((World.cell?_of_block (unhide B3)).trans wb0) (fun i hi hi4 => (World.cell?_of_block (unhide B3)).trans (wbi i hi hi4)) (fun i => (World.frozen?_of_block (unhide B3)).trans (wbf i)) (unhide r3) hz3 (unhide HG).own (unhide HG).lst ((unhide HG).at'.imp id (fun h q hq => by have := h q hq; omega)) (((unhide HG).os.trans o1).trans wbo) (((unhide HG).tape.trans o2).trans wbt) (((unhide HG).output.trans o3).trans wbu) t6 (unhide G6) (unhide O6) (unhide A6)⟩
end Go.Proofs.YthiiommpeaejaaaGreatDoor
