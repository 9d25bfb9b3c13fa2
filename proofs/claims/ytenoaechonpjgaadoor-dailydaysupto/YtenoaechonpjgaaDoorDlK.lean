/- daily: appendRows (23). -/
import Derived.Test.YtenoaechonpjgaaDoorDlJ
namespace Go.Proofs.YtenoaechonpjgaaDoor
open Go Go.Shelf Go.ChangeShapes Go.WideShapes Go.ChangeAt Go.RowKit Go.Maps
set_option linter.unusedVariables false
attribute [local go_sem ↓] ld82_is
def RowsOut (w0 : World) (L : List Dr) (acc : ByteArray) (S : List Mk) (e : Ending) (w' : World) : Prop :=
  ∃ p' c', e = .returned (.slice p' (L.length + S.length) c') ∧ w'.ownsRow w0.heap.size 44 4 (.slice p' (L.length + S.length) c') (L.length + S.length) (kD.flat (L ++ S.map fun m => (acc, m))) ∧ Below w0.heap.size w0 w'
set_option maxRecDepth 100000 in
set_option maxHeartbeats 4000000 in
theorem rows_any {w0 W : World} (hb : Below w0.heap.size w0 W) {p : Option Addr} {n c : Nat} {L : List Dr} (hn : L.length = n) (hL : W.ownsRow w0.heap.size 44 4 (.slice p n c) n (kD.flat L)) (acc : ByteArray) {q : Option Addr} {m cS : Nat} {S : List Mk} (hm : S.length = m) (hS : Lies kM w0 q S) (hl : n + m ≤ 1099511627776) :
    Calls Tryd.prog 23 #[.slice p n c, .string acc, .slice q m cS] W fun e w' => RowsOut w0 L acc S e w' := by
  have HS := hide hS; have HM := hide hm; have HN := hide hn; have HL := hide hL; have HB := hide hb
  clear hS hm hn hL hb
  go_enter Tryd.func23, Tryd.ntmps23
  go_wp2_with fail
  go_loopw [0, 11] (fun v0 v11 wr => ∃ (j c2 : Nat) (p2 : Option Addr), v11 = .int .i64 j ∧ v0 = .slice p2 (n + j) c2 ∧ j ≤ m ∧ Hid (wr.ownsRow w0.heap.size 44 4 (.slice p2 (n + j) c2) (n + j) (kD.flat (L ++ (S.take j).map fun m => (acc, m))) ∧ Below w0.heap.size w0 wr)) (fun _ v11 _ => m - (intOf v11).toNat)
  case atStart => exact ⟨0, c, p, rfl, rfl, by omega, by simpa using unhide HL, unhide HB⟩
  case round =>
    obtain ⟨j, c2, p2, rfl, rfl, hj, hrel⟩ := hrel
    obtain ⟨hown, hbel⟩ := unhide hrel
    by_cases hjm : j < m
    · have hjS : j < S.length := by rw [unhide HM]; exact hjm
      obtain ⟨bq, oq, eq1, hbq, hrq⟩ := (unhide HS).2 j hjS
      subst eq1
      obtain ⟨x, y, z, hxyz⟩ : ∃ x y z, S[j] = (x, y, z) := ⟨_, _, _, rfl⟩
      have hrw : wr.rangeAt bq (oq + j * 3) [.int .i64 x, .int .i64 y, .int .i64 z] := fun i u hu => by
        rw [hxyz] at hrq
        exact (hbel.cell (p := ⟨bq, oq + j * 3 + i, none⟩) hbq).trans (hrq i u hu)
      have hld := run_ld82 hrw
      obtain ⟨O1, hO1⟩ : ∃ O, O = Obj.cells #[.int .i64 x, .int .i64 y, .int .i64 z] 82 := ⟨_, rfl⟩
      obtain ⟨O2, hO2⟩ : ∃ O, O = Obj.cells #[.string acc, .int .i64 x, .int .i64 y, .int .i64 z] 44 := ⟨_, rfl⟩
      have hb1 : Below w0.heap.size w0 (wr.alloc O1) := hbel.alloc hbel.size _
      have hb2 : Below w0.heap.size w0 ((wr.alloc O1).alloc O2) := hb1.alloc hb1.size _
      have e1 : (wr.alloc O1).heap.size = wr.heap.size + 1 := by simp
      obtain ⟨p', c', w', hr, ho, hb, _, _⟩ := run_app kD_ok (L := L ++ (S.take j).map fun m => (acc, m)) (M := [(acc, x, y, z)]) 30 ((hown.alloc O1).alloc O2) hb2.size (some ⟨wr.heap.size + 1, 0, none⟩) 1 (fun h => by cases h) (by rw [← e1, hO2]; exact one_lies _ (acc, x, y, z) 44 _ rfl) (by simp; omega)
      rw [List.length_singleton] at hr ho
      have hetk : L ++ (S.take (j + 1)).map (fun m => (acc, m)) = L ++ (S.take j).map (fun m => (acc, m)) ++ [(acc, x, y, z)] := by
        rw [List.take_succ_eq_append_getElem hjS, List.map_append, hxyz, List.append_assoc]
        rfl
      have HFIN : Hid (w'.ownsRow w0.heap.size 44 4 (.slice p' (n + (j + 1)) c') (n + (j + 1)) (kD.flat (L ++ (S.take (j + 1)).map fun m => (acc, m))) ∧ Below w0.heap.size w0 w') := by
        refine ⟨?_, hb2.trans hb⟩
        rw [hetk]
        exact ho
      have HR := hide (show (Builtin.append_ #[30, 30] 30 #[.slice p2 (n + j) c2, .slice (some ⟨wr.heap.size + 1, 0, none⟩) 1 1]).run Tryd.prog ((wr.alloc O1).alloc O2) = .ok (.slice p' (n + (j + 1)) c') w' from hr)
      clear hr ho hb hb1 hb2 hetk hown hbel hrq hrw hxyz hrel hjS e1
      subst hO1 hO2
      go_wp2_with (at_builtin; refine wpList_append_run rfl _ _ 30 rfl _ _ _ _ rfl rfl (unhide HR) ?_)
      refine ⟨⟨j + 1, c', p', by simp, rfl, by omega, unhide HFIN⟩, by simp [intOf]; omega⟩
    · have ej : j = m := by omega
      subst ej
      have eS : S.take j = S := List.take_of_length_le (by rw [unhide HM]; omega)
      rw [eS] at hown
      have HFIN : Hid (RowsOut w0 L acc S (.returned (.slice p2 (n + j) c2)) wr) := by
        refine ⟨p2, c2, ?_, ?_, hbel⟩
        · rw [unhide HN, unhide HM]
        · rw [unhide HN, unhide HM]; exact hown
      clear hown hbel hrel eS hjm
      go_wp2_with fail
      go_ret
      exact unhide HFIN
end Go.Proofs.YtenoaechonpjgaaDoor
