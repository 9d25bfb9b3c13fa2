/- The keeper's book: KeepBytes (27) of a list that is not there. -/
import Derived.Test.YthiiommpeaejaaaGreatDoorPtxE
namespace Go.Proofs.YthiiommpeaejaaaGreatDoor
open Go Go.ChangeShapes Go.WideShapes Go.ChangeAt Go.RowKit
set_option linter.unusedVariables false
attribute [local go_sem] setCell_drewN alloc_drewN
/-- an append of nothing, the world behind it as a letter of its own -/
theorem step_append_nothing {ops : Array Oper} {o : Oper} {a : Act} {K : Act → World → Prop} {Q : Exit → Act → World → Prop} {E : Prop} (w : World) (hgd : o.guard = none) (s x : Operand)
    (ho : o.op = .call { callee := .builtin .append, args := #[s, x], argTypes := #[50, 50] })
    (base : Nat) (v : Value) (n : Nat) (xs : List Value) (hs : a.eval s = v) (hown : w.ownsRow base 9 1 v n xs) (hx : a.eval x = .slice none 0 0)
    (h : ∀ w5, w5 = w → K (a.put o.dst v) w5) :
    if Region.wanted o (yielded ops a.tmps) = true then Oper.wp Tryz.prog o a w K Q else E := by
  have hw : Region.wanted o (yielded ops a.tmps) = true := by simp [Region.wanted, hgd]
  rw [if_pos hw]
  obtain ⟨i0, hi, hz0, hz1, hz2⟩ := info_parts info9
  have hr := run_append_owned_none (P := Tryz.prog) (w := w) base 50 o.type 9 i0 1 Tryz.underlying50 hi v n xs hown
  unfold Oper.wp execOp
  simp only [ho, resolve, invoke, builtin, Sem.run_bind, Sem.run_pure, Result.andThen_ok, List.map_toArray, List.map_cons, List.map_nil, hs, hx, hr]
  exact h w rfl
set_option maxRecDepth 100000 in
set_option maxHeartbeats 8000000 in
theorem keep_none (bk k B : Nat) (f : Nat → ByteArray) (hk : k < 900) (w : World) (m pc : Nat) (pa : Option Addr) (xs : List Value) (hB : B ≤ w.heap.size) (hm : m < 96) (hk0 : w.cell? ⟨bk, 0, none⟩ = some (.int .i64 (k : Int))) (hk1 : w.cell? ⟨bk, 4, none⟩ = some (.slice pa m pc)) (hf0 : w.frozen? ⟨bk, 0, none⟩ = false) (hf1 : w.frozen? ⟨bk, 4, none⟩ = false)
    (hp : w.ownsRow B 68 5 (.slice pa m pc) m xs) (hpb : ∀ q, (Value.slice pa m pc).ownBlock = some q → q ≠ bk) :
    Calls Tryz.prog 17 #[.pointer (some ⟨bk, 0, none⟩), .slice none 0 0] w fun e w' => e = .returned (.tuple #[]) ∧ KeepOut w bk k m B (.slice none 0 0) 0 f (.slice pa m pc) xs w' := by
  have hI1 : (m : Int) < 96 := by omega
  have hbk : bk < w.heap.size := World.block_lt_of_cell? w ⟨bk, 4, none⟩ hk1
  have hnl : Hid ((w.alloc (.cells #[] 9)).drew.ownsRow w.heap.size 9 1 (.slice (some ⟨w.heap.size, 0, none⟩) 0 0) 0 []) := World.ownsRow_lit (base := w.heap.size) (e := 9) (size := 1) w #[] 0 (Nat.le_refl _) (by unfold maxLen; omega) rfl
  have HP := hide hp
  have k1a : (w.alloc (.cells #[] 9)).cell? ⟨bk, 4, none⟩ = some (.slice pa m pc) := (World.cell?_alloc_lt w (.cells #[] 9) ⟨bk, 4, none⟩ hbk).trans hk1
  have G0 : Hid (Below w.heap.size w (w.alloc (.cells #[] 9)).drew) := (bal (Below.refl _ _) _).drew
  have HK0 := hide hk0
  have HF0 := hide hf0
  have HPB := hide hpb
  have hid := hide (id_any bk k (by omega))
  clear hp hk0 hf0 hpb
  go_enter Tryz.func17, Tryz.ntmps17
  go_wp2_with fail
  go_region_law (first
    | (refine step_append_nothing _ rfl _ _ rfl w.heap.size (.slice (some ⟨w.heap.size, 0, none⟩) 0 0) 0 [] rfl (unhide hnl) rfl ?_; intro w5 hw5; have G5 : Hid (Below w.heap.size w w5) := (by rw [hw5]; exact unhide G0); have O5 : Hid (w5.ownsRow w.heap.size 9 1 (.slice (some ⟨w.heap.size, 0, none⟩) 0 0) 0 []) := (by rw [hw5]; exact unhide hnl); have t0 := hide (keep1 (unhide G5) hbk (unhide HK0)); have t1 := keep1 (unhide G5) hbk hk1; have u0 := hide (((unhide G5).frozen (p := ⟨bk, 0, none⟩) hbk).trans (unhide HF0)); have u1 := hide (((unhide G5).frozen (p := ⟨bk, 4, none⟩) hbk).trans hf1); have hb5 : bk < w5.heap.size := Nat.lt_of_lt_of_le hbk (unhide G5).size; have t1b := fun x o => load_far (x := x) (o := o) hb5 t1; clear hw5)
    | (go_simp; go_at_call 27; refine (unhide hid _ (unhide t0) (unhide u0)).mono ?_; rintro e w2 ⟨rfl, hw⟩; rw [hw]; clear hw)
    | (refine step_append_page _ rfl _ _ rfl B (.slice pa m pc) m xs rfl (row_far (unhide HP) (fun q hq => by have hq1 := ((unhide HP).lt q hq).2; rw [Below.heap_alloc _ _ _ (by simpa using Nat.lt_of_lt_of_le hq1 (unhide G5).size), Below.heap_setCell _ _ _ _ (unhide HPB q hq)]; exact (unhide G5).block q hq1)) ⟨w5.heap.size, 0, none⟩ 1 [.slice none 0 0, .slice none 0 0, .slice (some ⟨w.heap.size, 0, none⟩) 0 0, .int .i64 ((k : Int) + 1), .bool false] rfl rfl (five_new (by simp) _ _ _ _ _ _) (by intro u hu; simp at hu; rcases hu with rfl | rfl | rfl | rfl | rfl <;> rfl) (by omega) (by simp; have := (unhide G5).size; omega) ?_; intro g6 c6 w6 hown6 hgr6 hat6; have O6 := hide hown6; have G6 := hide hgr6; have A6 := hide hat6; have t6 := page_far hgr6 (unhide HPB) hb5 (by omega) t1; have f6 := page_farF hgr6 (unhide HPB) hb5 (unhide u1); clear hown6 hgr6 hat6))
  all_goals
    go_wp2_with fail
    go_end0
    exact ⟨rfl, keep_out hbk (fun q hq => ⟨unhide HPB q hq, ((unhide HP).lt q hq).2⟩) ⟨unhide G5, Nat.le_refl _⟩ (unhide O5) (unhide t0) (fun i => World.frozen?_of_block ((unhide G5).block bk hbk)) t6 (unhide G6) (unhide O6) (unhide A6)⟩
end Go.Proofs.YthiiommpeaejaaaGreatDoor
