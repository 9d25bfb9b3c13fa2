/- the law's own makers: claims (8). -/
import Derived.Test.YtildpgfhahmgmaaDoorDlA
import Derived.Test.YtildpgfhahmgmaaDoorHpC
import Derived.Test.YtildpgfhahmgmaaDoorVwA
import Derived.Test.YtildpgfhahmgmaaDoorAgB
import Derived.Deep.DeepCutAuto
import Derived.BigCall
import Derived.BigQuiet
import Derived.Deep.QuietTactic
namespace Go.Proofs.YtildpgfhahmgmaaDoor
open Go Go.Shelf Go.ChangeShapes Go.WideShapes Go.ChangeAt Go.RowKit Go.Maps
set_option linter.unusedVariables false
/-- a list that is being made -/
structure Rw {α : Type} (K : Kd α) (W wr : World) (v : Value) (m : Nat) (M : List α) : Prop where
  row : wr.ownsRow W.heap.size K.e K.s v m (K.flat M)
  bel : Below W.heap.size W wr
  len : M.length = m
/-- a deal -/
structure Dl where
  acc : ByteArray
  day : Int
  wait : Int
  amt : Int
  pp : Option Addr
  np : Nat
  cp : Nat
  parts : List (Int × Int)
def dl0 : Dl := ⟨⟨#[]⟩, 0, 0, 0, none, 0, 0, []⟩
def Dl.vals (d : Dl) : List Value := [.string d.acc, .int .i64 d.day, .int .i64 d.wait, .int .i64 d.amt, .slice d.pp d.np d.cp]
def DlsIn (W : World) (p : Option Addr) (L : List Dl) : Prop := ∀ k (hk : k < L.length), ∃ b off, p = some ⟨b, off, none⟩ ∧ b < W.heap.size ∧ W.rangeAt b (off + k * 5) L[k].vals
def clOf (i : Nat) (d : Dl) : Cl := ⟨keyS i, d.acc, intoS d.day 1 3651659, intoS d.day 1 3651659 + intoS d.wait 0 400, amountS d.amt⟩
def clP (L : List Dl) (n : Nat) : List Cl := (List.range n).map fun i => clOf i (L.getD i dl0)
theorem clP_succ {L : List Dl} {j : Nat} (h : j < L.length) : clP L (j + 1) = clP L j ++ [clOf j L[j]] := by
  unfold clP
  rw [List.range_succ, List.map_append, List.map_cons, List.map_nil, List.getD_eq_getElem?_getD, List.getElem?_eq_getElem h]
  rfl
theorem clP_len (L : List Dl) (n : Nat) : (clP L n).length = n := by unfold clP; simp
theorem into_bounds (v : Int) {lo hi : Int} (h : lo ≤ hi) : lo ≤ intoS v lo hi ∧ intoS v lo hi ≤ hi := by
  unfold intoS
  split
  · omega
  · split <;> omega
theorem amount_bounds (v : Int) : 1 ≤ amountS v ∧ amountS v ≤ 1000000000 := by
  unfold amountS
  split
  · omega
  · split <;> omega
set_option maxRecDepth 100000 in
set_option maxHeartbeats 8000000 in
theorem claims_any {W : World} {pu : Option Addr} {K cu : Nat} {L : List Dl} (hK : L.length = K) (hL : DlsIn W pu L) (hm : K ≤ maxLen) :
    Calls Tryd.prog 8 #[.slice pu K cu] W fun e w' => ∃ p c, e = .returned (.slice p (min K 50) c) ∧ Rw kC W w' (.slice p (min K 50) c) (min K 50) (clP L (min K 50)) := by
  have hKb : K ≤ 9223372036854775807 := by unfold maxLen at hm; omega
  have HL := hide hL; have HK := hide hK
  have dK := hide key_any; have dI := hide into_any; have dA := hide amount_any
  obtain ⟨N, hN⟩ : ∃ N, N = min K 50 := ⟨_, rfl⟩
  rw [← hN]
  have hNa : N ≤ K := by omega
  have hNb : N ≤ 50 := by omega
  have hNc : ¬ (N < K ∧ N < 50) := by omega
  clear hL hK hm hN
  go_enter Tryd.func8, Tryd.ntmps8
  go_wp2_with fail
  go_loopw [3, 4] (fun v3 v4 wr => ∃ (j : Nat), v4 = .int .i64 j ∧ j ≤ N ∧ (∃ p' c', v3 = .slice p' j c') ∧ Hid (Rw kC W wr v3 j (clP L j))) (fun _ v4 _ => N - (intOf v4).toNat)
  case atStart => exact ⟨0, rfl, by omega, ⟨none, 0, rfl⟩, World.ownsRow_nil _ _ _ _, Below.refl _ _, rfl⟩
  case round =>
    obtain ⟨j, rfl, hj, ⟨p3, c3, rfl⟩, hrel⟩ := hrel
    by_cases hlt : j < N
    · have hjK : j < K := by omega
      have hj5 : j < 50 := by omega
      have hjl : j < L.length := by rw [unhide HK]; exact hjK
      obtain ⟨b, off, e, hbl, hr⟩ := unhide HL j hjl
      obtain ⟨d, hd⟩ : ∃ d, d = L[j] := ⟨_, rfl⟩
      have hR := unhide hrel
      have hcs := clP_succ hjl
      rw [← hd] at hr hcs
      have hce : ∀ i v, d.vals[i]? = some v → wr.cell? ⟨b, off + j * 5 + i, none⟩ = some v := fun i v hv => (hR.bel.cell (p := ⟨b, off + j * 5 + i, none⟩) hbl).trans (hr i v hv)
      have k0 : wr.cell? ⟨b, off + j * 5, none⟩ = some (.string d.acc) := by have := hce 0 _ rfl; simpa using this
      have k1 : wr.cell? ⟨b, off + j * 5 + 1, none⟩ = some (.int .i64 d.day) := hce 1 _ rfl
      have k2 : wr.cell? ⟨b, off + j * 5 + 2, none⟩ = some (.int .i64 d.wait) := hce 2 _ rfl
      have k3 : wr.cell? ⟨b, off + j * 5 + 3, none⟩ = some (.int .i64 d.amt) := hce 3 _ rfl
      subst e
      obtain ⟨D, hD⟩ : ∃ D, D = intoS d.day 1 3651659 := ⟨_, rfl⟩
      obtain ⟨T, hT⟩ : ∃ T, T = intoS d.wait 0 400 := ⟨_, rfl⟩
      obtain ⟨M, hM⟩ : ∃ M, M = amountS d.amt := ⟨_, rfl⟩
      have hDb : 1 ≤ D ∧ D ≤ 3651659 := by rw [hD]; exact into_bounds _ (by decide)
      have hTb : 0 ≤ T ∧ T ≤ 400 := by rw [hT]; exact into_bounds _ (by decide)
      have dI1 := hide (fun w => unhide dI d.day 1 3651659 w)
      have dI2 := hide (fun w => unhide dI d.wait 0 400 w)
      have dA1 := hide (fun w => unhide dA d.amt w)
      have dK1 := hide (fun w => unhide dK j hj5 w)
      rw [← hD] at dI1
      rw [← hT] at dI2
      rw [← hM] at dA1
      obtain ⟨ks, hks⟩ : ∃ ks, ks = keyS j := ⟨_, rfl⟩
      rw [← hks] at dK1
      obtain ⟨x, hx⟩ : ∃ x : Cl, x = ⟨ks, d.acc, D, D + T, M⟩ := ⟨_, rfl⟩
      have hcx : clOf j d = x := by rw [hx, hks, hD, hT, hM]; rfl
      rw [hcx] at hcs
      have hRd : Rw kC W wr.drew (.slice p3 j c3) j (clP L j) := ⟨hR.row, hR.bel.drew, hR.len⟩
      obtain ⟨p8, c8, w8, r8, o8, b8, _⟩ := run_app kC_ok 23 (W := wr.drew.alloc (.cells #[.string ks, .string d.acc, .int .i64 D, .int .i64 (D + T), .int .i64 M] 37)) (M := [x]) (B := W.heap.size) (hRd.row.alloc _) (Nat.le_trans hRd.bel.size (by simp)) (some ⟨wr.drew.heap.size, 0, none⟩) 1 (fun h => by cases h) (one_lies wr.drew x 37 _ (by rw [hx]; rfl)) (by simp; omega)
      simp only [List.length_singleton] at r8 o8
      have HREL : Hid (Rw kC W w8 (.slice p8 (j + 1) c8) (j + 1) (clP L (j + 1))) := by
        rw [hcs]
        exact ⟨o8, (hRd.bel.alloc hRd.bel.size _).trans b8, by rw [List.length_append, hRd.len]; rfl⟩
      have hb8 : ∀ i, w8.cell? ⟨b, off + j * 5 + i, none⟩ = wr.cell? ⟨b, off + j * 5 + i, none⟩ := fun i => by
        rw [b8.cell (p := ⟨b, off + j * 5 + i, none⟩) hbl, World.cell?_alloc_lt _ _ _ (by show b < wr.heap.size; have := hR.bel.size; omega)]
        rfl
      have a0 : w8.cell? ⟨b, off + j * 5, none⟩ = some (.string d.acc) := (hb8 0).trans k0
      have a2 := (hb8 2).trans k2
      have a3 := (hb8 3).trans k3
      have hbs : b < wr.heap.size := by have := hR.bel.size; omega
      have HBS := hide hbs
      have hwr : IntKind.i64.wrap (D + T) = D + T := by rw [IntKind.wrap_i64]; omega
      clear hb8 hbs
      clear hR hRd hcs hcx hx hks hD hT hM hr hbl hd hjl hce hrel o8 b8
      go_upto_region 6 with (first | (go_at_call 12; refine (unhide dI1 _).mono ?_; rintro e w2 ⟨rfl, hw⟩; rw [hw]; clear hw w2))
      refine wp_region_last (n := 27) (S := fun W' => W'.cell? ⟨b, off + j * 5, none⟩ = some (.string d.acc) ∧ W'.cell? ⟨b, off + j * 5 + 2, none⟩ = some (.int .i64 d.wait) ∧ W'.cell? ⟨b, off + j * 5 + 3, none⟩ = some (.int .i64 d.amt)) (by kernel_rfl) (by exact ⟨k0, k2, k3⟩) (fun hHeld => ?_)
      refine tkW 0 ?_; refine tkW 1 ?_; refine tkW 3 ?_; refine tkW 4 ?_; refine tkW 5 ?_; refine tkW 6 ?_; refine tkN 7 ?_; refine tkW 8 ?_; refine tkW 9 ?_; refine tkW 10 ?_; refine tkW 11 ?_; refine tkW 12 ?_; refine tkW 13 ?_; refine tkN 14 ?_; refine tkW 17 ?_; refine tkW 18 ?_; refine tkW 19 ?_; refine tkW 20 ?_; refine tkN 21 ?_
      refine wpAnyL_one (i := 2) (by kernel_rfl) rfl (fun KK hK => ?_)
      go_simp
      go_wp2_with (first | (go_at_call 34; refine (unhide dK1 _).mono ?_; rintro e w2 ⟨rfl, hw⟩; rw [hw]; clear hw w2))
      refine hK.out _ _ (by exact ⟨k0, k2, k3⟩) (fun hHeld => ?_)
      clear hK KK
      refine wpAnyL_one (i := 15) (by kernel_rfl) rfl (fun KK hK => ?_)
      go_simp
      go_wp2_with (first | (go_at_call 12; refine (unhide dI2 _).mono ?_; rintro e w2 ⟨rfl, hw⟩; rw [hw]; clear hw w2))
      refine hK.out _ _ (by exact ⟨k0, k2, k3⟩) (fun hHeld => ?_)
      clear hK KK
      refine tkW 16 ?_
      try rw [hwr]
      refine wpAnyL_one (i := 22) (by kernel_rfl) rfl (fun KK hK => ?_)
      go_simp
      go_wp2_with (first | (go_at_call 35; refine (unhide dA1 _).mono ?_; rintro e w2 ⟨rfl, hw⟩; rw [hw]; clear hw w2))
      refine hK.out _ _ (by exact ⟨k0, k2, k3⟩) (fun hHeld => ?_)
      clear hK KK
      refine tkW 23 ?_
      refine wpAnyL_one (i := 24) (by kernel_rfl) rfl (fun KK hK => ?_)
      go_simp
      refine hK.out _ _ (by exact ⟨(World.cell?_alloc_lt _ _ _ (unhide HBS)).trans k0, (World.cell?_alloc_lt _ _ _ (unhide HBS)).trans k2, (World.cell?_alloc_lt _ _ _ (unhide HBS)).trans k3⟩) (fun hHeld => ?_)
      clear hK KK
      refine wpAnyL_one (i := 25) (by kernel_rfl) rfl (fun KK hK => ?_)
      refine step_append_run _ (by rfl) _ _ _ (by rfl) _ _ _ _ (by rfl) (by rfl) r8 ?_
      refine hK.out _ _ (by exact ⟨a0, a2, a3⟩) (fun hHeld => ?_)
      clear hK KK
      refine wpAnyL_one (i := 26) (by kernel_rfl) rfl (fun KK hK => ?_)
      go_simp
      refine hK.out _ _ (by exact ⟨a0, a2, a3⟩) (fun hHeld => ?_)
      clear hK KK
      refine wpAnyL_done (by kernel_rfl) ?_
      go_wp2_with fail
      exact ⟨⟨j + 1, by simp, by omega, ⟨_, _, rfl⟩, unhide HREL⟩, by simp [intOf]; omega⟩
    · have hjN : j = N := by omega
      subst hjN
      have HRL := hide (unhide hrel)
      by_cases hq : j < K
      · have h5 : ¬ (j < 50) := by omega
        go_wp2_with fail
        go_ret
        exact ⟨_, _, rfl, unhide HRL⟩
      · go_wp2_with fail
        go_ret
        exact ⟨_, _, rfl, unhide HRL⟩
end Go.Proofs.YtildpgfhahmgmaaDoor
