/- The keeper's book: KeepBytes (27) of a list that is there. -/
import Derived.Test.YthiiommpeaejaaaGreatDoorPtxE
namespace Go.Proofs.YthiiommpeaejaaaGreatDoor
open Go Go.ChangeShapes Go.WideShapes Go.ChangeAt Go.RowKit
set_option linter.unusedVariables false
attribute [local go_sem] setCell_drewN alloc_drewN
set_option maxRecDepth 100000 in
set_option maxHeartbeats 8000000 in
theorem keep_bytes (bk k n cap gb B : Nat) (f : Nat → ByteArray) (hk : k < 900) (hn : n ≤ 4096) (hn0 : 0 < n) (w : World) (m pc : Nat) (pa : Option Addr) (xs : List Value) (hB : B ≤ w.heap.size) (hm : m < 96) (hk0 : w.cell? ⟨bk, 0, none⟩ = some (.int .i64 (k : Int))) (hk1 : w.cell? ⟨bk, 4, none⟩ = some (.slice pa m pc)) (hf0 : w.frozen? ⟨bk, 0, none⟩ = false) (hf1 : w.frozen? ⟨bk, 4, none⟩ = false)
    (hgb : gb < w.heap.size) (hc : ∀ j, j < n → w.cell? ⟨gb, j, none⟩ = some (.string (f j))) (hp : w.ownsRow B 68 5 (.slice pa m pc) m xs) (hpb : ∀ q, (Value.slice pa m pc).ownBlock = some q → q ≠ bk) :
    Calls Tryz.prog 17 #[.pointer (some ⟨bk, 0, none⟩), .slice (some ⟨gb, 0, none⟩) n cap] w fun e w' => e = .returned (.tuple #[]) ∧ KeepOut w bk k m B (.slice (some ⟨gb, 0, none⟩) n cap) n f (.slice pa m pc) xs w' := by
  have hI1 : (m : Int) < 96 := by omega
  have hbk : bk < w.heap.size := World.block_lt_of_cell? w ⟨bk, 4, none⟩ hk1
  obtain ⟨i0, hi, hz0, hz1, hz2⟩ := info_parts info9
  have HI := hide hi; have HZ0 := hide hz0; have HZ1 := hide hz1; have HZ2 := hide hz2
  have hnl := hide (World.ownsRow_lit (base := w.heap.size) (e := 9) (size := 1) w #[] 0 (Nat.le_refl _) (by unfold maxLen; omega) rfl)
  have hc1 := hide (fun o j (hj : j < n) => (World.cell?_alloc_lt w o ⟨gb, j, none⟩ hgb).trans (hc j hj))
  have HP := hide hp
  have HC := hide hc
  have k1a := fun o => (World.cell?_alloc_lt w o ⟨bk, 4, none⟩ hbk).trans hk1
  have k0a := hide (fun o => (World.cell?_alloc_lt w o ⟨bk, 0, none⟩ hbk).trans hk0)
  have f0a := hide (fun o => show (w.alloc o).frozen? ⟨bk, 0, none⟩ = false from ((bal (Below.refl w.heap.size w) o).frozen (p := ⟨bk, 0, none⟩) hbk).trans hf0)
  have f1a := hide (fun o => show (w.alloc o).frozen? ⟨bk, 4, none⟩ = false from ((bal (Below.refl w.heap.size w) o).frozen (p := ⟨bk, 4, none⟩) hbk).trans hf1)
  have hpa := hide (fun o => show bk < (w.alloc o).heap.size from by rw [World.size_alloc]; omega)
  have hvn : Hid (∀ q, (Value.slice (some ⟨w.heap.size, 0, none⟩) 0 0).ownBlock = some q → q ≠ bk) := by
    intro q hq
    simp [Value.ownBlock] at hq
    omega
  have hvh : Hid (∀ q, (Value.slice (some ⟨w.heap.size, 0, none⟩) 0 0).ownBlock = some q → w.heap.size ≤ q) := by
    intro q hq
    simp [Value.ownBlock] at hq
    omega
  have HPB := hide hpb
  clear hpb
  have hid := hide (id_any bk k (by omega))
  clear hi hz0 hz1 hz2 hp hc hk0 hf0
  go_enter Tryz.func17, Tryz.ntmps17
  go_wp2_with fail
  go_region_law (first
    | (go_simp; go_at_call 27; refine (unhide hid _ (unhide t0) (unhide u0)).mono ?_; rintro e w2 ⟨rfl, hw⟩; rw [hw]; clear hw)
    | (refine step_append_page _ rfl _ _ rfl B (.slice pa m pc) m xs rfl (row_far (unhide HP) (fun q hq => by have hq1 := ((unhide HP).lt q hq).2; rw [Below.heap_alloc _ _ _ (by simpa using Nat.lt_of_lt_of_le hq1 (unhide G5).1.size), Below.heap_setCell _ _ _ _ (unhide HPB q hq)]; exact (unhide G5).1.block q hq1)) ⟨w5.heap.size, 0, none⟩ 1 [.slice (some ⟨gb, 0, none⟩) n cap, .slice none 0 0, .slice (some ⟨g, 0, none⟩) n c5, .int .i64 ((k : Int) + 1), .bool false] rfl rfl (five_new (by simp) _ _ _ _ _ _) (by intro u hu; simp at hu; rcases hu with rfl | rfl | rfl | rfl | rfl <;> rfl) (by omega) (by simp; have := (unhide G5).1.size; omega) ?_; intro g6 c6 w6 hown6 hgr6 hat6; have O6 := hide hown6; have G6 := hide hgr6; have A6 := hide hat6; have t6 := page_far hgr6 (unhide HPB) hb5 (by omega) t1; have f6 := page_farF hgr6 (unhide HPB) hb5 (unhide u1); clear hown6 hgr6 hat6)
    | (refine step_append_keep _ rfl _ _ rfl w.heap.size i0 (unhide HI) (unhide HZ0) (unhide HZ1) (unhide HZ2) (.slice (some ⟨w.heap.size, 0, none⟩) 0 0) 0 [] rfl (unhide hnl) ⟨gb, 0, none⟩ n cap (scells f n) rfl (scells_len _ _) (fun j u hj => by obtain ⟨h1, h2⟩ := scells_get' hj; rw [h2, Addr.add_mid, Nat.zero_add]; exact unhide hc1 _ j h1) (scells_one _ _) (by omega) (by omega) (by simp) ?_; intro g c5 w5 hown5 hgr5; have t0 := hide (grow_farW hgr5 (unhide hvn) (unhide hpa _) (unhide k0a _)); have t1 := grow_farW hgr5 (unhide hvn) (unhide hpa _) (k1a _); have u0 := hide (grow_farFW hgr5 (unhide hvn) (unhide hpa _) (unhide f0a _)); have u1 := hide (grow_farFW hgr5 (unhide hvn) (unhide hpa _) (unhide f1a _)); have O5 := hide hown5; have G5 := hide (keep_one (w := w) hgr5); have hb5 : bk < w5.heap.size := Nat.lt_of_lt_of_le hbk (unhide G5).1.size; have t1b := fun x o => load_far (x := x) (o := o) hb5 t1; clear hown5 hgr5))
  all_goals
    go_wp2_with fail
    go_end0
    have ho5 := unhide O5
    simp only [Nat.zero_add, List.nil_append] at ho5
    exact ⟨rfl, keep_out hbk (fun q hq => ⟨unhide HPB q hq, ((unhide HP).lt q hq).2⟩) (unhide G5) ho5 (unhide t0) (fun i => World.frozen?_of_block ((unhide G5).1.block bk hbk)) t6 (unhide G6) (unhide O6) (unhide A6)⟩
end Go.Proofs.YthiiommpeaejaaaGreatDoor
