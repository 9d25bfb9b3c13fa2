/- The keeper's book: WriteBytes (28) of a list that is not there. -/
import Derived.Test.YthiiommpeaejaaaGreatDoorPtxH
namespace Go.Proofs.YthiiommpeaejaaaGreatDoor
open Go Go.ChangeShapes Go.WideShapes Go.ChangeAt Go.RowKit
set_option linter.unusedVariables false
attribute [local go_sem] setCell_drewN alloc_drewN
set_option maxRecDepth 100000 in
set_option maxHeartbeats 8000000 in
theorem write_none (bk k B C : Nat) (hk : k < 900) (w : World) (m pc : Nat) (pa : Option Addr) (xs : List Value) (hB : B ≤ w.heap.size) (hC : C ≤ w.heap.size) (hm : m < 96) (hk0 : w.cell? ⟨bk, 0, none⟩ = some (.int .i64 (k : Int))) (hk1 : w.cell? ⟨bk, 4, none⟩ = some (.slice pa m pc)) (hf0 : w.frozen? ⟨bk, 0, none⟩ = false) (hf1 : w.frozen? ⟨bk, 4, none⟩ = false)
    (hP : Pw w) (h3 : bk ≠ 3) (hp : w.ownsRow B 68 5 (.slice pa m pc) m xs) (hpb : ∀ q, (Value.slice pa m pc).ownBlock = some q → q ≠ bk) :
    Calls Tryz.prog 18 #[.pointer (some ⟨bk, 0, none⟩), .slice none 0 0] w fun e w' => e = .returned (.tuple #[]) ∧ WriteOut w bk k m B C w.heap.size 0 (.slice none 0 0) (.slice pa m pc) xs w' := by
  have hI1 : (m : Int) < 96 := by omega
  have hbk : bk < w.heap.size := World.block_lt_of_cell? w ⟨bk, 4, none⟩ hk1
  have hid := hide (id_any bk k (by omega) w hk0 hf0)
  have HW : Hid (∃ W1, W1 = (w.setCell ⟨bk, 0, none⟩ (.int .i64 ((k : Int) + 1))).alloc (.cells #[.slice none 0 0, .slice none 0 0, .slice none 0 0, .int .i64 ((k : Int) + 1), .bool false] 68)) := ⟨_, rfl⟩
  obtain ⟨W1, hW1⟩ := unhide HW
  have hs1 : (w.setCell ⟨bk, 0, none⟩ (.int .i64 ((k : Int) + 1))).heap.size = w.heap.size := by simp
  have hz1 : W1.heap.size = w.heap.size + 1 := by rw [hW1]; simp
  have hpc : ∀ j, W1.cell? ⟨w.heap.size, j, none⟩ = (#[.slice none 0 0, .slice none 0 0, .slice none 0 0, .int .i64 ((k : Int) + 1), .bool false] : Array Value)[j]? := by
    intro j
    rw [hW1, ← hs1, World.cell?_alloc_mark]
  have hpf : ∀ j, W1.frozen? ⟨w.heap.size, j, none⟩ = false := by
    intro j
    rw [hW1]
    exact World.frozen?_alloc_at _ _ _ _ hs1.symm
  have hblk : ∀ q, q < w.heap.size → q ≠ bk → W1.heap[q]? = w.heap[q]? := by
    intro q hq h1
    rw [hW1, Below.heap_alloc _ _ _ (by simpa using hq), Below.heap_setCell _ _ _ _ h1]
  have PW1 := hide (hP.keep (hblk 3 hP.lt (fun e => h3 e.symm)))
  have h3w : w.heap.size ≠ 3 := by have := hP.lt; omega
  have HLT := hide hP.lt
  have hfill := hide (fill_none w.heap.size 0 W1 (hpc 0) ⟨_, hpc 4⟩ (hpf 4))
  have HP := hide hp
  have HPB := hide hpb
  have HK1 := hide hk1
  have HF1 := hide hf1
  have HPC := hide hpc
  have HPF := hide hpf
  have HBL := hide hblk
  have hk1' : W1.cell? ⟨bk, 4, none⟩ = some (.slice pa m pc) := by rw [hW1]; exact load_far (w5 := w) hbk hk1
  have hf1' : W1.frozen? ⟨bk, 4, none⟩ = false := by rw [hW1, World.frozen?_alloc_past _ _ _ (by simpa using hbk)]; simpa using hf1
  have WB : Hid (W1.cell? ⟨bk, 0, none⟩ = some (.int .i64 ((k : Int) + 1)) ∧ (∀ i, i ≠ 0 → i ≠ 4 → W1.cell? ⟨bk, i, none⟩ = w.cell? ⟨bk, i, none⟩) ∧ (∀ i, W1.frozen? ⟨bk, i, none⟩ = w.frozen? ⟨bk, i, none⟩) ∧ W1.os = w.os ∧ W1.tape = w.tape ∧ W1.output = w.output) := by
    rw [hW1]
    refine ⟨(World.cell?_alloc_lt _ _ _ (by simpa using hbk)).trans (World.cell?_setCell_same _ _ _ hk0), fun i hi hi4 => (World.cell?_alloc_lt _ _ _ (by simpa using hbk)).trans (World.cell?_setCell_other _ _ _ _ (by intro h'; injection h' with _ h' _; omega)), fun i => (World.frozen?_alloc_past _ _ _ (by simpa using hbk)).trans (by simp), rfl, rfl, rfl⟩
  have K1' := hide hk1'
  have F1' := hide hf1'
  have HW1 := hide hW1
  clear hp hpb hpc hpf hblk hk1' hf1' hW1 hf1
  go_enter Tryz.func18, Tryz.ntmps18
  go_wp2_with fail
  refine (unhide hid).mono ?_
  rintro e w2 ⟨rfl, hw⟩
  rw [hw]
  clear hw
  go_wp2_with fail
  rw [← unhide HW1]
  refine (unhide hfill).mono ?_
  rintro e w2 ⟨rfl, hw2⟩
  have hz2 : w2.heap.size = w.heap.size + 1 := by rw [hw2]; simp; omega
  have hpg2 : ∀ j, j ≠ 4 → w2.cell? ⟨w.heap.size, j, none⟩ = W1.cell? ⟨w.heap.size, j, none⟩ := fun j hj => by
    rw [hw2]
    exact World.cell?_setCell_other _ _ _ _ (by intro h'; injection h' with _ h' _; omega)
  have hpf2 : ∀ j, w2.frozen? ⟨w.heap.size, j, none⟩ = false := fun j => by
    rw [hw2]
    simpa using unhide HPF j
  have hp42 : w2.cell? ⟨w.heap.size, 4, none⟩ = some (.bool true) := by
    rw [hw2]
    exact World.cell?_setCell_same _ _ _ (unhide HPC 4)
  have hbl2 : ∀ q, q ≠ w.heap.size → w2.heap[q]? = W1.heap[q]? := fun q h1 => by
    rw [hw2, Below.heap_setCell _ _ _ _ h1]
  have hgrow := hide (grow_none w.heap.size 0 (k + 1) C (by omega) w2 (by omega) ((hpg2 0 (by omega)).trans (unhide HPC 0)) ⟨_, (hpg2 1 (by omega)).trans (unhide HPC 1)⟩ (hpf2 1) (((hpg2 3 (by omega)).trans (unhide HPC 3)).trans (by simp)) ((unhide PW1).keep (hbl2 3 (fun e => h3w e.symm))) h3w)
  have OS2 : Hid (w2.os = W1.os ∧ w2.tape = W1.tape ∧ w2.output = W1.output) := by rw [hw2]; exact ⟨rfl, rfl, rfl⟩
  have HH := hide (And.intro hpg2 (And.intro hpf2 (And.intro hp42 hbl2)))
  clear hpg2 hpf2 hp42 hbl2 hw2
  go_wp2_with fail
  refine (unhide hgrow).mono ?_
  rintro e w3 ⟨rfl, v, hG⟩
  obtain ⟨hpg2, hpf2, hp42, hbl2⟩ := unhide HH
  have c0 : w3.cell? ⟨w.heap.size, 0, none⟩ = some (.slice none 0 0) := ((hG.page 0 (by omega)).trans (hpg2 0 (by omega))).trans (unhide HPC 0)
  have c1 : w3.cell? ⟨w.heap.size, 1, none⟩ = some v := hG.g
  have c2 : w3.cell? ⟨w.heap.size, 2, none⟩ = some (.slice none 0 0) := ((hG.page 2 (by omega)).trans (hpg2 2 (by omega))).trans (unhide HPC 2)
  have c3 : w3.cell? ⟨w.heap.size, 3, none⟩ = some (.int .i64 ((k : Int) + 1)) := ((hG.page 3 (by omega)).trans (hpg2 3 (by omega))).trans (unhide HPC 3)
  have c4 : w3.cell? ⟨w.heap.size, 4, none⟩ = some (.bool true) := (hG.page 4 (by omega)).trans hp42
  obtain ⟨g3, c3', rfl⟩ := own_open hG.own (by omega)
  have HG := hide hG
  have b3 : w3.heap[bk]? = W1.heap[bk]? := (hG.far bk (by omega) (by omega) (by omega)).trans (hbl2 bk (by omega))
  have t1 : w3.cell? ⟨bk, 4, none⟩ = some (.slice pa m pc) := (World.cell?_of_block b3).trans (unhide K1')
  have u1 : w3.frozen? ⟨bk, 4, none⟩ = false := (World.frozen?_of_block b3).trans (unhide F1')
  have r3 : Hid (∀ q, q < w.heap.size → q ≠ bk → q ≠ w.heap.size → w3.heap[q]? = w.heap[q]?) := fun q h1 h2 h3 => ((hG.far q (by omega) (by omega) (by omega)).trans (hbl2 q (by omega))).trans (unhide HBL q h1 h2)
  have B3 : Hid (w3.heap[bk]? = W1.heap[bk]?) := b3
  have hz3 : w.heap.size + 1 ≤ w3.heap.size := by have := hG.size; omega
  have hb3 : bk < w3.heap.size := by omega
  have t1a := fun o => (World.cell?_alloc_lt w3 o ⟨bk, 4, none⟩ hb3).trans t1
  have u1a := hide (fun o => (World.frozen?_alloc_past (w := w3) o bk 4 hb3).trans u1)
  have U1 := hide u1
  clear hpg2 hpf2 hp42 hbl2 hG u1 b3
  go_wp2_with fail
  go_region_law (first
    | (refine step_append_page _ rfl _ _ rfl B (.slice pa m pc) m xs rfl (row_far (unhide HP) (fun q hq => by have hq1 := ((unhide HP).lt q hq).2; exact (Below.heap_alloc w3 _ _ (by omega)).trans (unhide r3 q hq1 (unhide HPB q hq) (by omega)))) ⟨w3.heap.size, 0, none⟩ 1 [.slice none 0 0, .slice (some ⟨g3, 0, none⟩) (0 + 64) c3', .slice none 0 0, .int .i64 ((k : Int) + 1), .bool true] rfl rfl (five_new rfl _ _ _ _ _ _) (by intro u hu; simp at hu; rcases hu with rfl | rfl | rfl | rfl | rfl <;> rfl) (by omega) (by simp; omega) ?_; intro g6 c6 w6 hown6 hgr6 hat6; have O6 := hide hown6; have G6 := hide hgr6; have A6 := hide hat6; have t6 := (hgr6.cell_far ⟨bk, 4, none⟩ (by simp; omega) (fun e => unhide HPB bk e.symm rfl)).trans (t1a _); have f6 := (hgr6.frozen_far ⟨bk, 4, none⟩ (by simp; omega) (fun e => unhide HPB bk e.symm rfl)).trans (unhide u1a _); clear hown6 hgr6 hat6))
  all_goals
    go_wp2_with fail
    go_end0
    obtain ⟨wb0, wbi, wbf, wbo, wbt, wbu⟩ := unhide WB
    obtain ⟨o1, o2, o3⟩ := unhide OS2
    refine ⟨rfl, write_out (gb := w.heap.size) (n := 0) hbk (by omega) (by omega) (fun q hq => by have := ((unhide HP).lt q hq).2; exact ⟨⟨unhide HPB q hq, by omega⟩, this⟩) ((World.cell?_of_block (unhide B3)).trans wb0) (fun i hi hi4 => (World.cell?_of_block (unhide B3)).trans (wbi i hi hi4)) (fun i => (World.frozen?_of_block (unhide B3)).trans (wbf i)) (unhide r3) hz3 (unhide HG).own (fun j hj => absurd hj (Nat.not_lt_zero j)) (.inr (fun q hq => (unhide HG).at'.elim (fun h => by rw [h] at hq; injection hq with hq; omega) (fun h => by have := h q hq; omega))) (((unhide HG).os.trans o1).trans wbo) (((unhide HG).tape.trans o2).trans wbt) (((unhide HG).output.trans o3).trans wbu) t6 (unhide G6) (unhide O6) (unhide A6)⟩
end Go.Proofs.YthiiommpeaejaaaGreatDoor
