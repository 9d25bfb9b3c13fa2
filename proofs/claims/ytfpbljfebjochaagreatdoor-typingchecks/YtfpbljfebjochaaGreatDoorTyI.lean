/- typing: typesOf 26. -/
import Derived.Test.YtfpbljfebjochaaGreatDoorTyH
import Derived.Laws.MakeOwn
namespace Go.Proofs.YtfpbljfebjochaaGreatDoor
open Go Go.Shelf Go.ChangeShapes Go.WideShapes Go.ChangeAt Go.RowKit Go.Maps
set_option linter.unusedVariables false
variable {α : Type} {K : Kd α}
theorem Rw.made (hK : KdOK K) (W : World) (c : Nat) (h1 : K.by' * c ≤ 281474976710656) (h2 : c ≤ 70000000000000) :
    ∃ w', (Instr.makeSlice K.t (.int .i64 0) (.int .i64 (c : Int))).run Tryz.prog W = .ok (.slice (some ⟨W.heap.size, 0, none⟩) 0 c) w' ∧ Rw K W w' (.slice (some ⟨W.heap.size, 0, none⟩) 0 c) 0 [] := by
  obtain ⟨i, z, hi, hz, hsize, hby, hzs⟩ := hK.info
  obtain ⟨w', h3, h4, h5⟩ := run_make_own (P := Tryz.prog) W W.heap.size K.t K.e i z K.s hK.und hi hz hsize .i64 .i64 c (by rw [hby]; exact h1) (by unfold maxLen; omega) (Nat.le_refl _)
  exact ⟨w', h3, h4, (Below.refl _ _).grown h5 (Nat.le_refl _) (fun k h => by cases h), rfl⟩
def ntS (x : Nd) (T : List Int) : Int := typS (narS x) T
/-- the types of nodes, each by those ahead of it -/
def tyL (L : List Nd) : List Int := L.foldl (fun T x => T ++ [ntS x T]) []
theorem tyL_snoc (L : List Nd) (x : Nd) : tyL (L ++ [x]) = tyL L ++ [ntS x (tyL L)] := by unfold tyL; rw [List.foldl_append]; rfl
theorem tyL_len (L : List Nd) : (tyL L).length = L.length := by
  suffices h : ∀ (T : List Int), (L.foldl (fun T x => T ++ [ntS x T]) T).length = T.length + L.length by simpa [tyL] using h []
  induction L with
  | nil => intro T; simp
  | cons x L ih => intro T; rw [List.foldl_cons, ih]; simp; omega
theorem tyL_take (L : List Nd) (k : Nat) (hk : k < L.length) : tyL (L.take (k + 1)) = tyL (L.take k) ++ [ntS L[k] (tyL (L.take k))] := by
  rw [List.take_succ_eq_append_getElem hk, tyL_snoc]
def ld37 (x : Value) : Sem Value := Instr.loadAt 61 x
theorem ld37_is (x : Value) : Instr.loadAt 61 x = ld37 x := rfl
theorem size37 : (Tryz.prog.info? 61).map (·.size) = some 6 := by kernel_rfl
theorem run_ld37 {w : World} {b o : Nat} {x : Nd} (h : w.rangeAt b o x.vals) : (ld37 (.pointer (some ⟨b, o, none⟩))).run Tryz.prog w = .ok x.val w :=
  run_loadAt_mid (P := Tryz.prog) w b o 61 x.vals _ h Tryz.underlying61 rfl size37
theorem new_range (w : World) (vs : List Value) (t : TypeId) : (w.alloc (.cells vs.toArray t)).rangeAt w.heap.size 0 vs := fun j u hu => by
  rw [World.cell?_alloc_mark, Nat.zero_add]; simpa using hu
attribute [local go_sem ↓] ld37_is
set_option maxRecDepth 100000
set_option maxHeartbeats 4000000
theorem typesOf_any {W : World} (hF : Flds W) (hM : Mon W) (hR : Recs W) {p : Option Addr} {n c : Nat} {L : List Nd} (hn : L.length = n) (hL : Lies kN W p L) (hb : n ≤ 2600000000000) :
    Calls Tryz.prog 61 #[.slice p n c] W fun e w' => ∃ q k, e = .returned (.slice q n k) ∧ Rw kI W w' (.slice q n k) n (tyL L) := by
  obtain ⟨w0, hmk, hr0⟩ := Rw.made kI_ok W n (by show 8 * n ≤ _; omega) (by omega)
  have hmk : (Instr.makeSlice 23 (.int .i64 0) (.int .i64 (n : Int))).run Tryz.prog W = .ok (.slice (some ⟨W.heap.size, 0, none⟩) 0 n) w0 := hmk
  have HR0 := hide hr0; have HF := hide hF; have HM := hide hM; have HR := hide hR; have HL := hide hL; have HN := hide hn
  clear hr0 hF hM hR hL hn
  go_enter Tryz.func61, Tryz.ntmps61
  go_wp2_with fail
  go_loopw [3, 11] (fun v3 v11 wr => ∃ (k : Nat) (q : Option Addr) (cq : Nat), v11 = .int .i64 k ∧ k ≤ n ∧ v3 = .slice q k cq ∧ Hid (Rw kI W wr (.slice q k cq) k (tyL (L.take k)))) (fun _ v11 _ => n - (intOf v11).toNat)
  case atStart => exact ⟨0, _, _, rfl, by omega, rfl, unhide HR0⟩
  case round =>
    obtain ⟨k, q, cq, rfl, hk, rfl, hrel⟩ := hrel
    by_cases hlt : k < n
    · have hkl : k < L.length := by rw [unhide HN]; exact hlt
      obtain ⟨b, off, e1, hbl, hr⟩ := (unhide HL).2 k hkl
      have htk := hide (tyL_take L k hkl)
      obtain ⟨x, hx⟩ : ∃ x, x = L[k] := ⟨_, rfl⟩
      rw [← hx] at hr htk
      have hB := (unhide hrel).bel
      have l1 := run_ld37 (w := wr) (b := b) (o := off + k * 6) (x := x) (fun j u hu => (hB.cell (p := ⟨b, off + k * 6 + j, none⟩) hbl).trans (hr j u hu))
      have l2 := run_ld37 (w := wr.alloc (.cells x.vals.toArray 61)) (b := wr.heap.size) (o := 0) (x := x) (new_range wr x.vals 61)
      have hwB : Below W.heap.size W (wr.alloc (.cells x.vals.toArray 61)) := hB.alloc hB.size _
      have d1 := hide (narrow_any (w := wr.alloc (.cells x.vals.toArray 61)) ((unhide HF).below hwB) ((unhide HM).below hwB) x)
      have d2 : Hid (∀ X, Below (wr.alloc (.cells x.vals.toArray 61)).heap.size (wr.alloc (.cells x.vals.toArray 61)) X → Calls Tryz.prog 131 #[(narS x).val, .slice q k cq] X fun e w' => e = .returned (.int .i64 (ntS x (tyL (L.take k)))) ∧ Below X.heap.size X w') := fun X hX =>
        typeOf_any ((unhide HR).below (hwB.trans (hX.mono hwB.size))) (unhide hrel).len (((((unhide hrel).below (Below.a1 wr _)).below hX).lies kI_ok)) (narS x)
      obtain ⟨nx, hnx⟩ : ∃ v, v = (narS x).val := ⟨_, rfl⟩
      obtain ⟨tx, htx⟩ : ∃ v, v = ntS x (tyL (L.take k)) := ⟨_, rfl⟩
      rw [← hnx] at d1 d2
      rw [← htx] at d2 htk
      obtain ⟨o, l, r, f, m, s⟩ := x
      unfold Nd.vals Nd.val at *
      have hkn : (k : Int) < (n : Int) := by omega
      have h3 : ¬ (k : Int) < 0 := by omega
      subst e1
      clear hr hx hB hwB hnx htx hbl
      go_wp2_with fail
      refine (unhide d1).mono ?_
      rintro e w1 ⟨rfl, hw⟩
      have HW1 := hide hw
      clear hw
      go_wp2_with fail
      refine (unhide d2 _ (unhide HW1)).mono ?_
      rintro e w2 ⟨rfl, hw⟩
      obtain ⟨p8, c8, w8, r8, o8⟩ := ((((unhide hrel).below (Below.a1 wr _)).below (unhide HW1)).below hw).put kI_ok tx #[.int .i64 tx] rfl 23 (by omega) (nat_bound (c := 2600000000000) (by omega) (by decide))
      have r8 : (Builtin.append_ #[23, 23] 23 #[.slice q k cq, .slice (some ⟨w2.heap.size, 0, none⟩) 1 1]).run Tryz.prog (w2.alloc (.cells #[.int .i64 tx] 3)) = .ok (.slice p8 (k + 1) c8) w8 := r8
      have HR8 := hide r8; have HO8 := hide o8
      clear hw r8 o8
      go_wp2_with (at_builtin; refine wpList_append_run rfl _ _ 23 rfl _ _ _ _ rfl rfl (unhide HR8) ?_)
      refine ⟨⟨k + 1, p8, c8, by go_num, by omega, rfl, ?_⟩, by simp [intOf]; omega⟩
      show Rw _ _ _ _ _ _
      rw [unhide htk]
      exact unhide HO8
    · have hkn : k = n := by omega
      subst hkn
      go_wp2_with fail
      go_ret
      refine ⟨_, _, rfl, ?_⟩
      have := unhide hrel
      rwa [List.take_of_length_le (by rw [unhide HN]; exact Nat.le_refl _)] at this
end Go.Proofs.YtfpbljfebjochaaGreatDoor
