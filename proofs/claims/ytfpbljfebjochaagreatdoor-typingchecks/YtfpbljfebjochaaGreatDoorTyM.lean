/- errors.Join 75. -/
import Derived.Test.YtfpbljfebjochaaGreatDoorTyK
namespace Go.Proofs.YtfpbljfebjochaaGreatDoor
open Go Go.Shelf Go.ChangeShapes Go.WideShapes Go.ChangeAt Go.RowKit Go.Maps
set_option linter.unusedVariables false
set_option maxRecDepth 100000
set_option maxHeartbeats 4000000
def kE : Kd Bool := ⟨fun b => [flt b], 1, 260, 81, 16⟩
theorem kE_ok : KdOK kE := kd_ok (fun _ => rfl) (by decide) (fun x u hu => by simp [kE] at hu; subst hu; cases x <;> rfl) Tryz.underlying260 (z := .nilIface) (by kernel_rfl) rfl (by decide)
/-- how many faults there are -/
def cntF (B : List Bool) : Nat := B.countP (fun b => !b)
theorem cntF_take (B : List Bool) (k : Nat) (hk : k < B.length) : cntF (B.take (k + 1)) = cntF (B.take k) + (if B[k] then 0 else 1) := by
  unfold cntF
  rw [List.take_succ_eq_append_getElem hk, List.countP_append]
  cases B[k] <;> rfl
theorem cntF_all {B : List Bool} : cntF B = 0 ↔ B.all id = true := by
  unfold cntF
  rw [List.countP_eq_zero, List.all_eq_true]
  exact ⟨fun h x hx => by have := h x hx; simpa using this, fun h x hx => by have := h x hx; simp at this; rw [this]; decide⟩
theorem cntF_le (B : List Bool) : cntF B ≤ B.length := List.countP_le_length
/-- what Join has made so far -/
structure Jn (W wr : World) (j : Nat) (q : Option Addr) (k c : Nat) : Prop where
  obj : wr.heap[j]? = some (.cells #[.slice q k c] 264 (0, 0))
  row : Rw kE W wr (.slice q k c) k (List.replicate k false)
  jlo : W.heap.size ≤ j
theorem row_type {α : Type} {K : Kd α} {W wr : World} {v : Value} {n g : Nat} {L : List α} (h : Rw K W wr v n L) (hg : v.ownBlock = some g) : ∃ cur, wr.heap[g]? = some (.cells cur K.e (0, 0)) := by
  rcases h.row.2 with ⟨e, h2⟩ | ⟨g', cap, cur, e, hB, hh, h3⟩
  · rw [e] at hg; cases hg
  · rw [e] at hg
    have e2 : g' = g := Option.some.inj hg
    subst e2
    exact ⟨cur, hh⟩
theorem Jn.ne {W wr : World} {j : Nat} {q : Option Addr} {k c : Nat} (h : Jn W wr j q k c) : (Value.slice q k c).ownBlock ≠ some j := fun e => by
  obtain ⟨cur, hc⟩ := row_type h.row e
  rw [h.obj] at hc
  injection hc with hc
  injection hc with h1 h2
  exact absurd h2 (by decide)
theorem heap_set1 {w : World} {b : Nat} {x y : Value} {t : TypeId} (h : w.heap[b]? = some (.cells #[x] t (0, 0))) : (w.setCell ⟨b, 0, none⟩ y).heap[b]? = some (.cells #[y] t (0, 0)) := by
  simp [World.setCell, Array.getElem?_modify, h]
theorem heap_new (w : World) (o : Obj) : (w.alloc o).heap[w.heap.size]? = some o := by
  show (w.heap.push o)[w.heap.size]? = _
  simp
theorem Jn.more {W wr : World} {j : Nat} {q : Option Addr} {k c : Nat} (h : Jn W wr j q k c) (hk : k ≤ 1000) :
    ∃ p' c' w', (Builtin.append_ #[260, 260] 260 #[.slice q k c, .slice (some ⟨wr.heap.size, 0, none⟩) 1 1]).run Tryz.prog (wr.alloc (.cells #[.iface 55 (.int .i64 140)] 81)) = .ok (.slice p' (k + 1) c') w' ∧ w'.cell? ⟨j, 0, none⟩ = some (.slice q k c) ∧ w'.frozen? ⟨j, 0, none⟩ = false ∧ Jn W (w'.setCell ⟨j, 0, none⟩ (.slice p' (k + 1) c')) j p' (k + 1) c' := by
  have hjl : j < wr.heap.size := (Array.getElem?_eq_some_iff.1 h.obj).1
  obtain ⟨p8, c8, w8, r8, o8, b8, s8, n8⟩ := run_app kE_ok 260 (W := wr.alloc (.cells #[.iface 55 (.int .i64 140)] 81)) (M := [false]) (B := W.heap.size) (L := List.replicate k false) (n := k) (v := .slice q k c) (h.row.row.alloc _) (Nat.le_trans h.row.bel.size (by simp)) (some ⟨wr.heap.size, 0, none⟩) 1 (fun h => by cases h) (one_lies wr false 81 #[.iface 55 (.int .i64 140)] rfl) (by show k + 1 ≤ _; omega)
  have hj8 : w8.heap[j]? = some (.cells #[.slice q k c] 264 (0, 0)) := by
    rw [s8 j (by simp; omega) h.ne, Below.heap_alloc _ _ _ hjl]
    exact h.obj
  have hlen : (List.replicate k false ++ [false]) = List.replicate (k + 1) false := by rw [List.replicate_succ']
  rw [hlen] at o8
  have hbel : Below W.heap.size W w8 := (h.row.bel.alloc h.row.bel.size _).trans b8
  have hR8 : Rw kE W w8 (.slice p8 (k + 1) c8) (k + 1) (List.replicate (k + 1) false) := ⟨o8, hbel, by simp⟩
  have hne8 : ∀ g, (Value.slice p8 (k + 1) c8).ownBlock = some g → g ≠ j := fun g hg e => by
    obtain ⟨cur, hc⟩ := row_type hR8 hg
    rw [e, hj8] at hc
    injection hc with hc
    injection hc with h1 h2
    exact absurd h2 (by decide)
  refine ⟨p8, c8, w8, r8, ?_, ?_, heap_set1 hj8, ⟨row_keep o8 (fun g hg => Below.heap_setCell _ _ _ _ (hne8 g hg)), hbel.setCell (p := ⟨j, 0, none⟩) h.jlo _, by simp⟩, h.jlo⟩
  · simp [World.cell?, hj8]
  · simp [World.frozen?, hj8]
/-- what Join answers -/
def JoinV (W : World) (B : List Bool) (v : Value) (w' : World) : Prop := Below W.heap.size W w' ∧ (if B.all id then v = .nilIface else ∃ j b m c, v = .iface 262 (.pointer (some ⟨j, 0, none⟩)) ∧ w'.cell? ⟨j, 0, none⟩ = some (.slice (some ⟨b, 0, none⟩) m c) ∧ 1 ≤ m ∧ w'.cell? ⟨b, 0, none⟩ = some (.iface 55 (.int .i64 140)))
theorem join_any {W : World} {p : Option Addr} {n c : Nat} {B : List Bool} (hn : B.length = n) (hB : Lies kE W p B) (hb : n ≤ 100) : Calls Tryz.prog 135 #[.slice p n c] W fun e w' => ∃ v, e = .returned v ∧ JoinV W B v w' := by
  have h1 := ne1
  have h0 := ne0
  have HN := hide hn; have HB := hide hB
  clear hn hB
  go_enter Tryz.func135, Tryz.ntmps135
  go_wp2_with fail
  go_loop [3, 11] (fun v3 v11 => ∃ (k t : Nat), v11 = .int .i64 k ∧ k ≤ n ∧ v3 = .int .i64 t ∧ t ≤ k ∧ Hid (t = cntF (B.take k))) (fun _ v11 => n - (intOf v11).toNat)
  case atStart => exact ⟨0, 0, rfl, by omega, rfl, by omega, by simp [cntF, Hid]⟩
  case round =>
    obtain ⟨k, t, rfl, hk, rfl, ht, hrel⟩ := hrel
    by_cases hlt : k < n
    · have hkl : k < B.length := by rw [unhide HN]; exact hlt
      obtain ⟨b, off, e1, hbl, hr⟩ := (unhide HB).2 k hkl
      have hct := hide (cntF_take B k hkl)
      obtain ⟨x, hx⟩ : ∃ x, x = B[k] := ⟨_, rfl⟩
      rw [← hx] at hr hct
      have hc := hr 0 (flt x) rfl
      simp only [kE, Nat.mul_one, Nat.add_zero] at hc
      have hkn : (k : Int) < (n : Int) := by omega
      subst e1
      clear hr hx hkl
      cases x with
      | true =>
        rw [flt_true] at hc
        go_wp2_with fail
        refine ⟨⟨k + 1, t, by go_num, by omega, rfl, by omega, ?_⟩, by simp [intOf]; omega⟩
        show _ = _
        rw [unhide hct, ← unhide hrel]
        rfl
      | false =>
        rw [flt_false, eT] at hc
        go_wp2_with fail
        refine ⟨⟨k + 1, t + 1, by go_num, by omega, by go_num, by omega, ?_⟩, by simp [intOf]; omega⟩
        show _ = _
        rw [unhide hct, ← unhide hrel]
        rfl
    · have hkn : k = n := by omega
      subst hkn
      have htot : Hid (t = cntF B) := by
        have := unhide hrel
        rwa [List.take_of_length_le (by rw [unhide HN]; exact Nat.le_refl _)] at this
      clear hrel
      by_cases ht0 : t = 0
      · subst ht0
        have hall : Hid (B.all id = true) := cntF_all.1 (unhide htot).symm
        go_wp2_with fail
        go_ret
        refine ⟨_, rfl, Below.refl _ _, ?_⟩
        rw [if_pos (unhide hall)]
        rfl
      · have hall : Hid (¬ B.all id = true) := fun h => ht0 ((unhide htot).trans (cntF_all.2 h))
        have ht0' : ((t : Int) == 0) = false := beqF (by omega)
        have ht0'' : ¬ (t : Int) = 0 := by omega
        obtain ⟨w0, hmk, hr0⟩ := Rw.made kE_ok W t (by show 16 * t ≤ _; omega) (by omega)
        have hmk : (Instr.makeSlice 260 (.int .i64 0) (.int .i64 (t : Int))).run Tryz.prog W = .ok (.slice (some ⟨W.heap.size, 0, none⟩) 0 t) w0 := hmk
        have HJ0 : Hid (Jn W (w0.alloc (.cells #[.slice (some ⟨W.heap.size, 0, none⟩) 0 t] 264)) w0.heap.size (some ⟨W.heap.size, 0, none⟩) 0 t) := ⟨heap_new _ _, hr0.below (Below.a1 w0 _), hr0.bel.size⟩
        clear hr0
        go_wp2_with fail
        go_loopw [28] (fun v28 wr => ∃ (i m : Nat) (q : Option Addr) (cq : Nat), v28 = .int .i64 i ∧ i ≤ k ∧ m ≤ i ∧ Hid (m = cntF (B.take i)) ∧ Hid (Jn W wr w0.heap.size q m cq)) (fun v28 _ => k - (intOf v28).toNat)
        case atStart => exact ⟨0, 0, _, _, rfl, by omega, by omega, by simp [cntF, Hid], unhide HJ0⟩
        case round =>
          obtain ⟨i, m, q, cq, rfl, hi, hmi, hrel1, hrel2⟩ := hrel
          by_cases hlt : i < k
          · have hkl : i < B.length := by rw [unhide HN]; exact hlt
            obtain ⟨b, off, e1, hbl, hr⟩ := (unhide HB).2 i hkl
            have hct := hide (cntF_take B i hkl)
            obtain ⟨x, hx⟩ : ∃ x, x = B[i] := ⟨_, rfl⟩
            rw [← hx] at hr hct
            have hc := ((unhide hrel2).row.bel.cell (p := ⟨b, off + i * kE.s + 0, none⟩) hbl).trans (hr 0 (flt x) rfl)
            simp only [kE, Nat.mul_one, Nat.add_zero] at hc
            have hkn : (i : Int) < (k : Int) := by omega
            subst e1
            clear hr hx hkl hbl
            cases x with
            | true =>
              rw [flt_true] at hc
              go_wp2_with fail
              refine ⟨⟨i + 1, m, q, cq, by go_num, by omega, by omega, ?_, unhide hrel2⟩, by simp [intOf]; omega⟩
              show _ = _
              rw [unhide hct, ← unhide hrel1]
              rfl
            | false =>
              rw [flt_false, eT] at hc
              have hj0 : wr.cell? ⟨w0.heap.size, 0, none⟩ = some (.slice q m cq) := by simp [World.cell?, (unhide hrel2).obj]
              obtain ⟨p8, c8, w8, r8, c80, f80, j8⟩ := (unhide hrel2).more (by omega)
              have HR8 := hide r8; have HJ8 := hide j8
              clear r8 j8
              go_wp2_with (at_builtin; refine wpList_append_run rfl _ _ 260 rfl _ _ _ _ rfl rfl (unhide HR8) ?_)
              refine ⟨⟨i + 1, m + 1, p8, c8, by go_num, by omega, by omega, ?_, unhide HJ8⟩, by simp [intOf]; omega⟩
              show _ = _
              rw [unhide hct, ← unhide hrel1]
              rfl
          · have hik : i = k := by omega
            subst hik
            have htot2 : Hid (m = cntF B) := by
              have := unhide hrel1
              rwa [List.take_of_length_le (by rw [unhide HN]; exact Nat.le_refl _)] at this
            clear hrel1
            go_wp2_with fail
            go_ret
            refine ⟨_, rfl, (unhide hrel2).row.bel, ?_⟩
            rw [if_neg (unhide hall)]
            have hm1 : 1 ≤ m := by
              have h1 := unhide htot
              have h2 := unhide htot2
              omega
            obtain ⟨b, off, e1, hbl, hr⟩ := ((unhide hrel2).row.lies kE_ok).2 0 (by simp; omega)
            obtain ⟨qq, cc, e2, e3, e4⟩ := row_slice (unhide hrel2).row.row
            cases e2
            subst e1
            have h5 := (e4 _ rfl).1
            simp only at h5
            subst h5
            have h6 := hr 0 (.iface 55 (.int .i64 140)) (by simp [kE, flt])
            exact ⟨w0.heap.size, b, m, cq, rfl, by simp [World.cell?, (unhide hrel2).obj], hm1, by simpa using h6⟩
theorem JoinV.up {W X w' : World} {B : List Bool} {v : Value} (h : JoinV X B v w') (hb : Below W.heap.size W X) : JoinV W B v w' := ⟨hb.trans (h.1.mono hb.size), h.2⟩
end Go.Proofs.YtfpbljfebjochaaGreatDoor
