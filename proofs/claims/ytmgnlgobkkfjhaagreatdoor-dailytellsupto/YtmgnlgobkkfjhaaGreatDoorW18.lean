import Derived.Test.YtmgnlgobkkfjhaaGreatDoorW17
import Derived.Maps.OwnSet
import Derived.Maps.OwnOps
import Derived.Maps.OwnRows
import Derived.Maps.AppendAt
import Derived.Maps.RangeWalk
/- daily: with (17). -/
namespace Go.Proofs.YtmgnlgobkkfjhaaGreatDoor
open Go Go.Shelf Go.ChangeShapes Go.WideShapes Go.ChangeAt Go.RowKit Go.Maps Go.Sort
set_option linter.unusedVariables false
attribute [local go_sem ↓] s57_is
/-- what with answers -/
def WithOut (T M : Td) (S : List Mk) (W : World) (e : Ending) (w' : World) : Prop :=
  (¬ fitT (T ++ M) ∧ e = .returned (.tuple #[.agg #[.int .i64 0, .slice none 0 0], .int .i64 11]) ∧ Below W.heap.size W w') ∨
  (fitT (T ++ M) ∧ ∃ (st : Nat) (R : List Mk) (pm : Option Addr) (cm : Nat), e = .returned (.tuple #[.agg #[.int .i64 st, .slice pm R.length cm], .int .i64 0]) ∧ st ≤ S.length ∧ Ser (T ++ M) (S.take st ++ R) ∧ w'.ownsRow W.heap.size 187 3 (.slice pm R.length cm) R.length (kM.flat R) ∧ Below W.heap.size W w')
theorem tape_two (w : World) (q : Nat) (x y : Value) : (w.setCells q 0 [x, y]).tape = w.tape := by
  simp [World.setCells, World.setCell]
theorem setCells_below {W w : World} {q : Nat} {x y : Value} (h : Below W.heap.size W w) (hq : W.heap.size ≤ q) : Below W.heap.size W (w.setCells q 0 [x, y]) :=
  ⟨(World.os_setCells w q 0 _).trans h.os, (tape_two w q x y).trans h.tape, (World.output_setCells w q 0 _).trans h.output, by simp; exact h.size, fun k hk => (World.heap_setCells_other w q 0 _ (Nat.lt_of_lt_of_le hk h.size) (by omega)).trans (h.block k hk)⟩
theorem two_cells {w : World} {q : Nat} {a b : Value} (h : w.heap[q]? = some (.cells #[a, b] 98 (0, 0))) (x y : Value) : (w.setCells q 0 [x, y]).cell? ⟨q, 0, none⟩ = some x ∧ (w.setCells q 0 [x, y]).cell? ⟨q, 1, none⟩ = some y := by
  have ht : w.there q 0 2 := fun j hj => by
    rcases j with _ | _ | j
    · simp [World.cell?, World.frozen?, h]
    · simp [World.cell?, World.frozen?, h]
    · omega
  have hr := World.rangeAt_setCells_same w q 0 [x, y] ht
  exact ⟨hr 0 x rfl, hr 1 y rfl⟩
set_option maxRecDepth 100000 in
set_option maxHeartbeats 8000000 in
theorem with_any {T : Td} {S : List Mk} (hSer : Ser T S) (hfit : fitT T) {W : World} {p : Option Addr} {c : Nat} (hS : Lies kM W p S) (hpc : p = none → c = 0) (hSc : S.length ≤ c) (hSl : S.length ≤ 137438953472) {ad : Addr} {cM nM : Nat} {M : List (Int × Int)} (hnM : M.length = nM) (hM1 : 0 < nM) (hMl : nM ≤ 137438953472) (hM : Lies kT W (some ad) M) (hMa : ∀ x ∈ M, isA x.2) :
    Calls Tryz.prog 75 #[.slice p S.length c, .slice (some ad) nM cM, .func (.func 76) #[] #[]] W fun e w' => WithOut T M S W e w' := by
  obtain ⟨O, hO⟩ : ∃ O, O = Obj.cells #[.int .i64 0, .slice none 0 0] 98 := ⟨_, rfl⟩
  have hb1 : Below W.heap.size W (W.alloc O) := bal (Below.refl _ _) O
  have hs1 : (W.alloc O).heap.size = W.heap.size + 1 := by simp
  have hbx : (W.alloc O).heap[W.heap.size]? = some (.cells #[.int .i64 0, .slice none 0 0] 98 (0, 0)) := by rw [hO]; exact heap_alloc_new _ _
  obtain ⟨W1, hW1⟩ : ∃ W1, W1 = W.alloc O := ⟨_, rfl⟩
  rw [← hW1] at hb1 hs1 hbx
  have dB := hide (behind_any (cM := cM) (c := c) (hS.below hb1) hSer.up hpc hSc (by omega) hnM hM1 (by omega) (hM.below hb1))
  have HSer := hide hSer; have HFit := hide hfit; have HS := hide hS; have HNM := hide hnM; have HMa := hide hMa; have HB1 := hide hb1; have HBX := hide hbx; have HS1 := hide hs1
  obtain ⟨N, hN⟩ : ∃ N, N = S.length := ⟨_, rfl⟩
  have HN := hide hN
  rw [← hN] at dB hSc hSl ⊢
  have HPC := hide hpc
  clear hSer hfit hS hM hnM hMa hb1 hbx hs1 hN hpc
  have hW1' := hW1
  rw [hO] at hW1
  subst hW1
  clear hW1'
  go_enter Tryz.func75, Tryz.ntmps75
  go_wp2_with fail
  refine (unhide dB).mono ?_
  rintro e w2 ⟨st, g, c', n, A, rfl, hst, hAl, hnc', hperm, hsrt, hlt, hlA, hb2⟩
  have hB2 : Below W.heap.size W w2 := (unhide HB1).trans (hb2.mono (unhide HB1).size)
  have hbx2 : w2.heap[W.heap.size]? = some (.cells #[.int .i64 0, .slice none 0 0] 98 (0, 0)) := (hb2.block W.heap.size (by rw [unhide HS1]; omega)).trans (unhide HBX)
  have hz2 : W.heap.size < w2.heap.size := by have := hb2.size; have := unhide HS1; omega
  have dBl := hide (blc_any S p c st (by rw [← unhide HN]; exact hst) (by rw [← unhide HN]; omega) w2 ((unhide HS).below hB2))
  rw [← unhide HN] at dBl
  have hwi := Wi.first (unhide HSer) (unhide HFit) (by rw [← unhide HN]; exact hst) hperm hsrt hlt
  obtain ⟨b0, hb0⟩ : ∃ b0, b0 = (if st = 0 then 0 else (S.getD (st - 1) (0, 0, 0)).2.2) := ⟨_, rfl⟩
  rw [← hb0] at dBl hwi
  have hAa : ∀ x ∈ A, isA x.2 := fun x hx => by
    rcases List.mem_append.1 (hperm.mem_iff.1 hx) with h | h
    · exact unhide HMa x h
    · obtain ⟨m, hm, rfl⟩ := List.mem_map.1 h
      have := (unhide HSer).is m (List.mem_of_mem_drop hm)
      rw [this.1]
      exact (unhide HFit _).1
  have hAn : n ≤ 274877906944 := by
    have h1 := hperm.length_eq
    rw [List.length_append, unhide HNM] at h1
    unfold tld at h1
    rw [List.length_map, List.length_drop, ← unhide HN] at h1
    omega
  have hown1 : ∀ d, own (tld (S.take st) ++ A) d = own (T ++ M) d := own_cut (unhide HSer) st hperm
  have HWI := hide hwi; have HAa := hide hAa; have HAL := hide hAl; have HLA := hide hlA; have HB2 := hide hB2; have HBX2 := hide hbx2; have HZ2 := hide hz2; have HOWN := hide hown1
  clear hwi hAa hAl hlA hB2 hbx2 hz2 hown1 hperm hsrt hlt hb2 hb0 dB
  go_wp2_with fail
  refine (unhide dBl).mono ?_
  rintro e wx ⟨rfl, hwx⟩
  rw [hwx]
  clear hwx wx dBl
  go_wp2_with fail
  go_loopw [9, 10, 11] (fun v9 v10 v11 wr => ∃ (m c9 r cm : Nat) (b : Int) (p9 pm : Option Addr), v9 = .slice p9 m c9 ∧ v10 = .int .i64 b ∧ v11 = .slice pm r cm ∧ m ≤ c9 ∧ r + m ≤ n ∧ Hid (∃ (A2 : Td) (R : List Mk), A2.length = m ∧ R.length = r ∧ (∀ x ∈ A2, isA x.2) ∧ Wi (S.take st) A A2 b R ∧ Lies kT w2 p9 A2 ∧ wr.ownsRow w2.heap.size 187 3 (.slice pm r cm) r (kM.flat R) ∧ Below w2.heap.size w2 wr)) (fun v9 _ _ _ => match v9 with | .slice _ m _ => m | _ => 0)
  case atStart => exact ⟨n, c', 0, 0, b0, _, none, rfl, rfl, rfl, hnc', by omega, A, [], unhide HAL, rfl, unhide HAa, unhide HWI, unhide HLA, World.ownsRow_nil _ _ _ _, Below.refl _ _⟩
  case round =>
    obtain ⟨m, c9, r, cm, b, p9, pm, rfl, rfl, rfl, hmc, hrm, hrel⟩ := hrel
    obtain ⟨A2, R, hA2, hR, hA2a, hWi, hl2, hown, hbel⟩ := unhide hrel
    have hbr : wr.heap[W.heap.size]? = some (.cells #[.int .i64 0, .slice none 0 0] 98 (0, 0)) := (hbel.block _ (unhide HZ2)).trans (unhide HBX2)
    have hBr : Below W.heap.size W wr := (unhide HB2).trans (hbel.mono (Nat.le_of_lt (unhide HZ2)))
    by_cases hm : 0 < m
    · obtain ⟨b9, o9, hp9, hlt9, hr9⟩ := hl2.2 0 (by omega)
      subst hp9
      obtain ⟨d, hd⟩ : ∃ d, d = (A2[0]'(by omega)).1 := ⟨_, rfl⟩
      have q0 : wr.cell? ⟨b9, o9, none⟩ = some (.int .i64 d) := by
        rw [hd]
        exact (hbel.cell (p := ⟨b9, o9, none⟩) hlt9).trans (by simpa using hr9 0 _ rfl)
      have hhead : ∀ x, A2.head? = some x → x.1 = d := fun x hx => by
        cases A2 with
        | nil => cases hx
        | cons a L => cases hx; exact hd.symm
      have hA2ne : A2 ≠ [] := fun h => by rw [h] at hA2; simp at hA2; omega
      have dC := hide (cut_any (c := c9) hA2 hm hmc (by omega) (hl2.below hbel) d hhead)
      have HWi := hide hWi; have HL2 := hide hl2; have HOW := hide hown; have HBE := hide hbel; have HBRR := hide hBr; have HBR := hide hbr; have HA2 := hide hA2; have HA2a := hide hA2a; have HNE := hide hA2ne; have HR := hide hR
      clear hWi hl2 hown hbel hBr hbr hA2 hA2a hA2ne hR hrel hr9 hhead hd
      go_wp2_with fail
      refine (unhide dC).mono ?_
      rintro e w3 ⟨k, p', m', c2, ps, cs, rfl, hk1, hkm, hmc2, hG, hRn, hsame, htr, hb3⟩
      have hlen : ((A2.take k).map (·.2)).length = k := by rw [List.length_map, List.length_take, unhide HA2]; omega
      have hls : Lies kI w3 ps ((A2.take k).map (·.2)) := own_lies kI_ok hlen hsame
      obtain ⟨X, hX⟩ : ∃ X, X = tot (A2.take k) := ⟨_, rfl⟩
      have esum : sumA ((A2.take k).map (·.2)) = if isA X then (X, 0) else (0, 11) := by unfold sumA; rw [tot_snd, ← hX]
      have dS := hide (msum_lies (c := cs) hlen hls (by omega) (by omega) (fun x hx => by
        obtain ⟨z, hz, rfl⟩ := List.mem_map.1 hx
        exact unhide HA2a z (List.mem_of_mem_take hz)))
      rw [esum] at dS
      have hbr3 : w3.heap[W.heap.size]? = some (.cells #[.int .i64 0, .slice none 0 0] 98 (0, 0)) := (hb3.block _ (by have := (unhide HBE).size; have := unhide HZ2; omega)).trans (unhide HBR)
      have hBr3 : Below W.heap.size W w3 := (unhide HBRR).trans (hb3.mono (unhide HBRR).size)
      have hb23 : Below w2.heap.size w2 w3 := (unhide HBE).trans (hb3.mono (unhide HBE).size)
      have how3 : w3.ownsRow w2.heap.size 187 3 (.slice pm r cm) r (kM.flat R) := row_keep (unhide HOW) (fun q hq => hb3.block q (row_block (unhide HOW) hq).2.1)
      have HWi2 : Hid (isA X → isA (b + X) → Wi (S.take st) A (A2.drop k) (b + X) (if X = 0 then R else R ++ [(d, X, b + X)])) := fun h1 h2 => by
        have := (unhide HWi).step hk1 hG hRn (unhide HNE) (by rw [← hX]; exact h1) (by rw [← hX]; exact h2)
        rw [← hX] at this
        exact this
      have HNF0 : Hid (¬ (isA X ∧ isA (b + X)) → ¬ fitT (T ++ M)) := fun h hf => by
        have := (unhide HWi).bad hk1 hG hRn (unhide HNE) (by rw [← hX]; exact h)
        exact this (hf.same fun d => (unhide HOWN d).symm)
      have hisb : isA b := (unhide HWi).isa
      have HL3 := hide (htr w2 (unhide HL2))
      have HLd : Hid ((A2.drop k).length = m' ∧ ∀ x ∈ A2.drop k, isA x.2) := ⟨by rw [List.length_drop, unhide HA2]; omega, fun x hx => unhide HA2a x (List.mem_of_mem_drop hx)⟩
      have HBR3 := hide hbr3; have HBRR3 := hide hBr3; have HB23 := hide hb23; have HOW3 := hide how3
      clear hbr3 hBr3 hb23 how3 esum hls hsame htr hb3 hG hRn hlen hX dC q0
      by_cases hXa : isA X
      · rw [if_pos hXa] at dS
        obtain ⟨O4, hO4⟩ : ∃ O, O = Obj.cells #[.int .i64 b, .int .i64 X] 2 := ⟨_, rfl⟩
        have hl4 : Lies kI (w3.alloc O4) (some ⟨w3.heap.size, 0, none⟩) [b, X] := by
          refine ⟨(fun h => by cases h), fun i hi => ⟨w3.heap.size, 0, rfl, by simp, fun j u hu => ?_⟩⟩
          rw [hO4, World.cell?_alloc_mark]
          have hj : j = 0 := by
            have := (List.getElem?_eq_some_iff.1 hu).1
            simpa [kI] using this
          subst hj
          rcases i with _ | _ | i
          · simpa [kI] using hu
          · simpa [kI] using hu
          · simp at hi; omega
        have esum2 : sumA [b, X] = if isA (b + X) then (b + X, 0) else (0, 11) := by unfold sumA; simp [sm]
        have dS2 := hide (msum_lies (c := 2) (n := 2) rfl hl4 (by omega) (by omega) (fun x hx => by
          simp at hx
          rcases hx with rfl | rfl
          · exact hisb
          · exact hXa))
        rw [esum2] at dS2
        clear esum2 hl4
        have hX4 : Below w3.heap.size w3 (w3.alloc O4) := bal (Below.refl _ _) O4
        have HX4 := hide hX4
        clear hX4
        go_wp2_with fail
        refine (unhide dS).mono ?_
        rintro e wx ⟨rfl, hwx⟩
        rw [hwx]
        clear hwx wx dS
        by_cases hYa : isA (b + X)
        · rw [if_pos hYa] at dS2
          obtain ⟨Y, hY⟩ : ∃ Y, Y = b + X := ⟨_, rfl⟩
          rw [← hY] at dS2 HWi2
          have hWn := unhide HWi2 hXa (by rw [hY]; exact hYa)
          have HWn := hide hWn
          clear hY hWn HWi2 HNF0
          subst hO4
          go_wp2_with fail
          refine (unhide dS2).mono ?_
          rintro e wx ⟨rfl, hwx⟩
          rw [hwx]
          clear hwx wx dS2
          by_cases hz : X = 0
          · subst hz
            have hWn := unhide HWn
            rw [if_pos rfl] at hWn
            have HFIN := hide (show ∃ (A2' : Td) (R' : List Mk), A2'.length = m' ∧ R'.length = r ∧ (∀ x ∈ A2', isA x.2) ∧ Wi (S.take st) A A2' Y R' ∧ Lies kT w2 p' A2' ∧ (w3.alloc (.cells #[.int .i64 b, .int .i64 0] 2)).ownsRow w2.heap.size 187 3 (.slice pm r cm) r (kM.flat R') ∧ Below w2.heap.size w2 (w3.alloc (.cells #[.int .i64 b, .int .i64 0] 2)) from ⟨A2.drop k, R, (unhide HLd).1, unhide HR, (unhide HLd).2, hWn, unhide HL3, (unhide HOW3).alloc _, (unhide HB23).alloc (unhide HB23).size _⟩)
            clear hWn
            go_wp2_with fail
            refine ⟨⟨m', c2, r, cm, Y, p', pm, rfl, rfl, rfl, hmc2, by omega, unhide HFIN⟩, by simp; omega⟩
          · have hWn := unhide HWn
            rw [if_neg hz] at hWn
            obtain ⟨O5, hO5⟩ : ∃ O, O = Obj.cells #[.int .i64 d, .int .i64 X, .int .i64 Y] 187 := ⟨_, rfl⟩
            obtain ⟨w4, hw4⟩ : ∃ w4, w4 = w3.alloc (.cells #[.int .i64 b, .int .i64 X] 2) := ⟨_, rfl⟩
            have hb4 : Below w2.heap.size w2 w4 := by rw [hw4]; exact (unhide HB23).alloc (unhide HB23).size _
            have how4 : w4.ownsRow w2.heap.size 187 3 (.slice pm r cm) r (kM.flat R) := by rw [hw4]; exact (unhide HOW3).alloc _
            have hb5 : Below w2.heap.size w2 (w4.alloc O5) := hb4.alloc hb4.size _
            obtain ⟨p5, c5, w5, hr5, ho5, hb55, _, _⟩ := run_app kM_ok (L := R) (M := [(d, X, Y)]) 96 (how4.alloc O5) hb5.size (some ⟨w4.heap.size, 0, none⟩) 1 (fun h => by cases h) (by rw [hO5]; exact one_lies w4 (d, X, Y) 187 _ rfl) (by simp; omega)
            rw [List.length_singleton] at hr5 ho5
            have e4 : w4.heap.size = w3.heap.size + 1 := by rw [hw4]; simp
            rw [e4] at hr5
            clear e4
            have HFIN := hide (show ∃ (A2' : Td) (R' : List Mk), A2'.length = m' ∧ R'.length = r + 1 ∧ (∀ x ∈ A2', isA x.2) ∧ Wi (S.take st) A A2' Y R' ∧ Lies kT w2 p' A2' ∧ w5.ownsRow w2.heap.size 187 3 (.slice p5 (r + 1) c5) (r + 1) (kM.flat R') ∧ Below w2.heap.size w2 w5 from ⟨A2.drop k, R ++ [(d, X, Y)], (unhide HLd).1, by rw [List.length_append, List.length_singleton, unhide HR], (unhide HLd).2, hWn, unhide HL3, ho5, hb5.trans hb55⟩)
            have HR5 := hide hr5
            have hxz : (X != 0) = true := by simpa using hz
            clear hWn hr5 ho5 hb55 hb5 hb4 how4
            subst hO5
            subst hw4
            go_wp2_with (at_builtin; refine wpList_append_run rfl _ _ 96 rfl _ _ _ _ rfl rfl (unhide HR5) ?_)
            refine ⟨⟨m', c2, r + 1, c5, Y, p', p5, rfl, rfl, rfl, hmc2, by omega, unhide HFIN⟩, by simp; omega⟩
        · have HNF := hide (unhide HNF0 (fun h => hYa h.2))
          rw [if_neg hYa] at dS2
          have hbr4 := ((unhide HX4).block _ (Nat.lt_of_lt_of_le (unhide HZ2) (unhide HB23).size)).trans (unhide HBR3)
          have hBr4 : Below W.heap.size W (w3.alloc O4) := (unhide HBRR3).trans ((unhide HX4).mono (unhide HBRR3).size)
          subst hO4
          go_wp2_with fail
          refine (unhide dS2).mono ?_
          rintro e wx ⟨rfl, hwx⟩
          rw [hwx]
          clear hwx wx dS2
          have hst57 := run_s57 hbr4 0 none 0 0
          have hcc := two_cells hbr4 (.int .i64 0) (.slice none 0 0)
          have hBz : Below W.heap.size W ((w3.alloc (.cells #[.int .i64 b, .int .i64 X] 2)).setCells W.heap.size 0 [.int .i64 0, .slice none 0 0]) := setCells_below hBr4 (Nat.le_refl _)
          obtain ⟨wz, hwz⟩ : ∃ wz, wz = (w3.alloc (.cells #[.int .i64 b, .int .i64 X] 2)).setCells W.heap.size 0 [.int .i64 0, .slice none 0 0] := ⟨_, rfl⟩
          rw [← hwz] at hst57 hcc hBz
          obtain ⟨hz0, hz1⟩ := hcc
          have HBZ := hide hBz
          clear hBz hwz hbr4 hBr4
          go_wp2_with fail
          refine bodyPost_ret (v := .tuple #[.agg #[.int .i64 0, .slice none 0 0], .int .i64 11]) ?_ rfl ?_
          · simp [results, Tryz.results75, go_sem, hz0, hz1]
          · exact .inl ⟨unhide HNF, rfl, unhide HBZ⟩
      · have HNF := hide (unhide HNF0 (fun h => hXa h.1))
        rw [if_neg hXa] at dS
        have hbr4 := unhide HBR3
        have hBr4 := unhide HBRR3
        go_wp2_with fail
        refine (unhide dS).mono ?_
        rintro e wx ⟨rfl, hwx⟩
        rw [hwx]
        clear hwx wx dS
        have hst57 := run_s57 hbr4 0 none 0 0
        have hcc := two_cells hbr4 (.int .i64 0) (.slice none 0 0)
        have hBz : Below W.heap.size W (w3.setCells W.heap.size 0 [.int .i64 0, .slice none 0 0]) := setCells_below hBr4 (Nat.le_refl _)
        obtain ⟨wz, hwz⟩ : ∃ wz, wz = w3.setCells W.heap.size 0 [.int .i64 0, .slice none 0 0] := ⟨_, rfl⟩
        rw [← hwz] at hst57 hcc hBz
        obtain ⟨hz0, hz1⟩ := hcc
        have HBZ := hide hBz
        clear hBz hwz hbr4 hBr4
        go_wp2_with fail
        refine bodyPost_ret (v := .tuple #[.agg #[.int .i64 0, .slice none 0 0], .int .i64 11]) ?_ rfl ?_
        · simp [results, Tryz.results75, go_sem, hz0, hz1]
        · exact .inl ⟨unhide HNF, rfl, unhide HBZ⟩
    · have hA0 : A2 = [] := List.eq_nil_of_length_eq_zero (by omega)
      subst hA0
      obtain ⟨A1, e1, hs1, hf1, _, _⟩ := hWi.cut
      rw [List.append_nil] at e1
      subst e1
      have hfT : fitT (T ++ M) := hf1.same (unhide HOWN)
      have hsT : Ser (T ++ M) (S.take st ++ R) := hs1.same (unhide HOWN)
      have hst57 := run_s57 hbr st pm r cm
      have hcc := two_cells hbr (.int .i64 st) (.slice pm r cm)
      have hBz : Below W.heap.size W (wr.setCells W.heap.size 0 [.int .i64 st, .slice pm r cm]) := setCells_below hBr (Nat.le_refl _)
      have hoz : (wr.setCells W.heap.size 0 [.int .i64 st, .slice pm r cm]).ownsRow W.heap.size 187 3 (.slice pm r cm) r (kM.flat R) := by
        refine row_keep (row_le hown (Nat.le_of_lt (unhide HZ2))) (fun q hq => ?_)
        have := row_block hown hq
        have := unhide HZ2
        exact World.heap_setCells_other _ _ _ _ (by omega) (by omega)
      obtain ⟨wz, hwz⟩ : ∃ wz, wz = wr.setCells W.heap.size 0 [.int .i64 st, .slice pm r cm] := ⟨_, rfl⟩
      rw [← hwz] at hst57 hcc hBz hoz
      obtain ⟨hz0, hz1⟩ := hcc
      have HF := hide (And.intro hfT (And.intro hsT (And.intro hBz hoz)))
      have HR := hide hR
      clear hfT hsT hBz hoz hWi hl2 hown hbel hrel hs1 hf1 hA2a hBr hbr hwz hR hA2
      go_wp2_with fail
      refine bodyPost_ret (v := .tuple #[.agg #[.int .i64 st, .slice pm r cm], .int .i64 0]) ?_ rfl ?_
      · simp [results, Tryz.results75, go_sem, hz0, hz1]
      · obtain ⟨f1, f2, f3, f4⟩ := unhide HF
        refine .inr ⟨f1, st, R, pm, cm, ?_, by rw [← unhide HN]; exact hst, f2, ?_, f3⟩
        · rw [unhide HR]
        · rw [unhide HR]; exact f4
end Go.Proofs.YtmgnlgobkkfjhaaGreatDoor
/- maps from names to lists that a call owns. -/
namespace Go.Proofs.YtmgnlgobkkfjhaaGreatDoor
open Go Go.ChangeShapes Go.WideShapes Go.ChangeAt Go.RowKit Go.Maps
set_option linter.unusedVariables false
variable {α : Type} {K : Kd α}
theorem keyM {s : ByteArray} (hs : s.size ≤ maxLen) : keyOf Tryz.prog 9 (.string s) = some (.string s.data.toList) := by
  simp [keyOf, mapKey, Tryz.underlying9, hs]
/-- a map's element that is a slice, held as it is -/
def sliceElem : Value → Option (DataW Value × List MemPlace)
  | .slice p n c => some (.held (.slice p n c), [])
  | _ => none
theorem sliceElem_inv {v : Value} {y : DataW Value × List MemPlace} (h : sliceElem v = some y) : ∃ p n c, v = .slice p n c ∧ y = (.held v, []) := by
  unfold sliceElem at h
  split at h
  · injection h with h; exact ⟨_, _, _, rfl, h.symm⟩
  · cases h
/-- a map from names to lists: each name's list is in the hand of the map alone -/
structure MSAt (K : Kd α) (w : World) (B b n : Nat) (D : DataW Value) (F : List UInt8 → List α) (V : List UInt8 → Value) : Prop where
  map : w.ownsMap Tryz.prog 9 sliceElem b n D
  val : ∀ k, D.atKey (.string k) (.held (.slice none 0 0)) = .held (V k)
  key : ∀ k, Maps.has D (.string k) = true ↔ F k ≠ []
  row : ∀ k, w.ownsRow B K.e K.s (V k) (F k).length (K.flat (F k))
  nil : ∀ k, F k = [] → V k = .slice none 0 0
  apart : ∀ k k', k ≠ k' → F k ≠ [] → F k' ≠ [] → (V k).ownBlock ≠ (V k').ownBlock
theorem row_some {w : World} {B e s n : Nat} {v : Value} {xs : List Value} (h : w.ownsRow B e s v n xs) (hn : 0 < n) : ∃ g, v.ownBlock = some g := by
  rcases h.2 with ⟨e, h2⟩ | ⟨g', c, xs, e, hB, hh, _⟩
  · omega
  · exact ⟨g', by rw [e]; rfl⟩
theorem MSAt.made (w : World) (B : Nat) : MSAt K (w.alloc (.map #[] 0)) B w.heap.size 0 (.map []) (fun _ => []) (fun _ => .slice none 0 0) where
  map := World.ownsMap_made w _ _ _
  val k := rfl
  key k := by simp [has_eq]
  row k := World.ownsRow_nil _ _ _ _
  nil k _ := rfl
  apart k k' _ h := by simp at h
theorem MSAt.blk {w : World} {B b n : Nat} {D : DataW Value} {F : List UInt8 → List α} {V : List UInt8 → Value} (h : MSAt K w B b n D F V) {k : List UInt8} {g : Nat} (hg : (V k).ownBlock = some g) : B ≤ g ∧ g < w.heap.size ∧ F k ≠ [] := by
  have := row_block (h.row k) hg
  refine ⟨this.1, this.2.1, fun e => ?_⟩
  rw [h.nil k e] at hg
  cases hg
/-- whatever leaves the map's block and the lists' blocks alone -/
theorem MSAt.keep {w w' : World} {B b n : Nat} {D : DataW Value} {F : List UInt8 → List α} {V : List UInt8 → Value} (h : MSAt K w B b n D F V) {row : Option Nat} (hg : w.grownBy w' row) (hb : some b ≠ row) (hr : ∀ k, F k ≠ [] → (V k).ownBlock ≠ row) : MSAt K w' B b n D F V where
  map := h.map.kept hg hb
  val := h.val
  key := h.key
  row k := row_keep (h.row k) fun g hgk => hg.block g (h.blk hgk).2.1 (fun e => hr k (h.blk hgk).2.2 (by rw [hgk, e]))
  nil := h.nil
  apart := h.apart
theorem MSAt.alloc {w : World} {B b n : Nat} {D : DataW Value} {F : List UInt8 → List α} {V : List UInt8 → Value} (h : MSAt K w B b n D F V) (o : Obj) : MSAt K (w.alloc o) B b n D F V where
  map := h.map.alloc o
  val := h.val
  key := h.key
  row k := (h.row k).alloc o
  nil := h.nil
  apart := h.apart
theorem MSAt.drew {w : World} {B b n : Nat} {D : DataW Value} {F : List UInt8 → List α} {V : List UInt8 → Value} (h : MSAt K w B b n D F V) : MSAt K w.drew B b n D F V := ⟨h.map.drew, h.val, h.key, h.row, h.nil, h.apart⟩
theorem MSAt.below {w w' : World} {B b n : Nat} {D : DataW Value} {F : List UInt8 → List α} {V : List UInt8 → Value} (h : MSAt K w B b n D F V) (hb : Below w.heap.size w w') : MSAt K w' B b n D F V :=
  h.keep (grown_of_below hb) (fun e => by cases e) (fun k hk e => by
    obtain ⟨g, hg⟩ := row_some (h.row k) (List.length_pos_iff.2 hk)
    rw [hg] at e
    cases e)
set_option maxRecDepth 100000 in
theorem MSAt.look {w : World} {B b n : Nat} {D : DataW Value} {F : List UInt8 → List α} {V : List UInt8 → Value} (h : MSAt K w B b n D F V) {t e : TypeId} (ht : Tryz.prog.underlying t = some (.map 9 e)) (hz : (zeroValue e).run Tryz.prog w = .ok (.slice none 0 0) w) {s : ByteArray} (hs : s.size ≤ maxLen) :
    (Instr.lookup t (.map (some b)) (.string s) false).run Tryz.prog w = .ok (V s.data.toList) w := by
  obtain ⟨v, ps, hrun, hR⟩ := h.map.lookup (string_keyed Tryz.underlying9) ht hz (zd := .held (.slice none 0 0)) (zp := []) rfl (keyM hs)
  rw [h.val] at hR
  obtain ⟨p, n, c, rfl, e⟩ := sliceElem_inv hR
  have e2 : DataW.held (V s.data.toList) = DataW.held (Value.slice p n c) := congrArg Prod.fst e
  injection e2 with e2
  rw [e2]
  exact hrun
theorem ne_map {w : World} {B e s n b nn : Nat} {v : Value} {xs : List Value} {D : DataW Value} (hm : w.ownsMap Tryz.prog 9 sliceElem b nn D) (hv : w.ownsRow B e s v n xs) {g : Nat} (hg : v.ownBlock = some g) : some g ≠ some b := fun h => by
  obtain ⟨_, _, o, ho, hc⟩ := row_block hv hg
  obtain ⟨es, clock, hb, _⟩ := hm
  rw [Option.some.inj h, hb] at ho
  cases ho
  cases hc
/-- a name's list written anew -/
theorem MSAt.set0 {w0 w : World} {B b n : Nat} {D : DataW Value} {F : List UInt8 → List α} {V : List UInt8 → Value} (h : MSAt K w0 B b n D F V) (hmap0 : w.ownsMap Tryz.prog 9 sliceElem b n D) {t e : TypeId} (ht : Tryz.prog.underlying t = some (.map 9 e)) (hn : n < maxLen) {s : ByteArray} (hs : s.size ≤ maxLen) {v : Value} {L : List α} (hL : L ≠ []) (hv : w.ownsRow B K.e K.s v L.length (K.flat L)) (hrow : ∀ k, k ≠ s.data.toList → w.ownsRow B K.e K.s (V k) (F k).length (K.flat (F k))) (hap : ∀ k, k ≠ s.data.toList → F k ≠ [] → (V k).ownBlock ≠ v.ownBlock) :
    ∃ w' D', (Instr.mapUpdate t (.map (some b)) (.string s) v).run Tryz.prog w = .ok () w' ∧ MSAt K w' B b (n + 1) D' (fun k => if k = s.data.toList then L else F k) (fun k => if k = s.data.toList then v else V k) ∧ w.grownBy w' (some b) := by
  obtain ⟨pv, cv, hv', _⟩ := row_slice hv
  obtain ⟨w', hrun, hmap, hg⟩ := hmap0.update (val := v) (d := .held v) (ps := []) (string_keyed Tryz.underlying9) ht hn (keyM hs) (by rw [hv']; rfl)
  refine ⟨w', D.put (.string s.data.toList) (.held v), hrun, ⟨hmap, fun k => ?_, fun k => ?_, fun k => ?_, fun k hk => ?_, fun k k' hne hk hk' => ?_⟩, hg⟩
  · by_cases e : k = s.data.toList
    · subst e; rw [atKey_put_same h.map.isMap (by trivial)]; simp
    · rw [atKey_put_other (by simpa using e), h.val]; simp [e]
  · by_cases e : k = s.data.toList
    · subst e; rw [has_put_same h.map.isMap (by trivial)]; simp [hL]
    · rw [has_put_other (by simpa using e), h.key]; simp [e]
  · by_cases e : k = s.data.toList
    · simp only [if_pos e]
      exact row_keep hv fun g hgv => hg.block g (row_block hv hgv).2.1 (ne_map hmap0 hv hgv)
    · simp only [if_neg e]
      exact row_keep (hrow k e) fun g hgv => hg.block g (row_block (hrow k e) hgv).2.1 (ne_map hmap0 (hrow k e) hgv)
  · by_cases e : k = s.data.toList
    · simp only [if_pos e] at hk; exact absurd hk hL
    · simp only [if_neg e] at hk ⊢; exact h.nil k hk
  · by_cases e : k = s.data.toList
    · have e' : k' ≠ s.data.toList := fun e2 => hne (by rw [e, e2])
      simp only [if_neg e'] at hk'
      simp only [if_pos e, if_neg e']
      exact (hap k' e' hk').symm
    · simp only [if_neg e] at hk
      by_cases e' : k' = s.data.toList
      · simp only [if_neg e, if_pos e']
        exact hap k e hk
      · simp only [if_neg e'] at hk'
        simp only [if_neg e, if_neg e']
        exact h.apart k k' hne hk hk'
theorem MSAt.set {w : World} {B b n : Nat} {D : DataW Value} {F : List UInt8 → List α} {V : List UInt8 → Value} (h : MSAt K w B b n D F V) {t e : TypeId} (ht : Tryz.prog.underlying t = some (.map 9 e)) (hn : n < maxLen) {s : ByteArray} (hs : s.size ≤ maxLen) {v : Value} {L : List α} (hL : L ≠ []) (hv : w.ownsRow B K.e K.s v L.length (K.flat L)) (hap : ∀ k, k ≠ s.data.toList → F k ≠ [] → (V k).ownBlock ≠ v.ownBlock) :
    ∃ w' D', (Instr.mapUpdate t (.map (some b)) (.string s) v).run Tryz.prog w = .ok () w' ∧ MSAt K w' B b (n + 1) D' (fun k => if k = s.data.toList then L else F k) (fun k => if k = s.data.toList then v else V k) ∧ w.grownBy w' (some b) :=
  h.set0 h.map ht hn hs hL hv (fun k _ => h.row k) hap
/-- a name's list grown by an append -/
theorem MSAt.grow {w0 w : World} {B b n : Nat} {D : DataW Value} {F : List UInt8 → List α} {V : List UInt8 → Value} (h : MSAt K w0 B b n D F V) {t e : TypeId} (ht : Tryz.prog.underlying t = some (.map 9 e)) (hn : n < maxLen) {s : ByteArray} (hs : s.size ≤ maxLen) {v : Value} {L : List α} (hL : L ≠ []) (hsz : w0.heap.size ≤ w.heap.size) (hos : w.os = w0.os) (htp : w.tape = w0.tape) (hout : w.output = w0.output) (hst : ∀ k, k < w0.heap.size → (V s.data.toList).ownBlock ≠ some k → w.heap[k]? = w0.heap[k]?) (hv : w.ownsRow B K.e K.s v L.length (K.flat L)) (hloc : v.ownBlock = (V s.data.toList).ownBlock ∨ v.ownBlock = some w0.heap.size) :
    ∃ w' D', (Instr.mapUpdate t (.map (some b)) (.string s) v).run Tryz.prog w = .ok () w' ∧ MSAt K w' B b (n + 1) D' (fun k => if k = s.data.toList then L else F k) (fun k => if k = s.data.toList then v else V k) ∧ w.grownBy w' (some b) := by
  have hg : w0.grownBy w (V s.data.toList).ownBlock := ⟨hos, htp, hout, hsz, fun k hk hne => hst k hk (fun e => hne e.symm)⟩
  have hgb : some b ≠ (V s.data.toList).ownBlock := fun e => ne_map h.map (h.row s.data.toList) e.symm rfl
  have hne : ∀ k, k ≠ s.data.toList → F k ≠ [] → (V k).ownBlock ≠ (V s.data.toList).ownBlock := fun k hk hF e => by
    by_cases hFs : F s.data.toList = []
    · rw [h.nil _ hFs] at e
      obtain ⟨g, hg⟩ := row_some (h.row k) (List.length_pos_iff.2 hF)
      rw [hg] at e
      cases e
    · exact h.apart k _ hk hF hFs e
  refine h.set0 (h.map.kept hg hgb) ht hn hs hL hv (fun k hk => row_keep (h.row k) fun g hgk => ?_) (fun k hk hF e => ?_)
  · have hb := h.blk hgk
    exact hst g hb.2.1 (fun e => hne k hk hb.2.2 (by rw [hgk, e]))
  · rcases hloc with h1 | h1
    · exact hne k hk hF (by rw [e, h1])
    · obtain ⟨g, hg⟩ := row_some (h.row k) (List.length_pos_iff.2 hF)
      rw [hg, h1] at e
      have := (h.blk hg).2.1
      have := Option.some.inj e
      omega
/-- a name struck -/
theorem MSAt.del {w : World} {B b n : Nat} {D : DataW Value} {F : List UInt8 → List α} {V : List UInt8 → Value} (h : MSAt K w B b n D F V) {t e : TypeId} (ht : Tryz.prog.underlying t = some (.map 9 e)) {s : ByteArray} (hs : s.size ≤ maxLen) (ty : TypeId) :
    ∃ w' D', (Builtin.delete_ #[t, 9] ty #[.map (some b), .string s]).run Tryz.prog w = .ok (.tuple #[]) w' ∧ MSAt K w' B b n D' (fun k => if k = s.data.toList then [] else F k) (fun k => if k = s.data.toList then .slice none 0 0 else V k) ∧ w.grownBy w' (some b) := by
  obtain ⟨w', hrun, hmap, hg⟩ := h.map.drop (string_keyed Tryz.underlying9) ht (keyM hs) ty
  have hg' : w.grownBy w' (some b) := hg.grown
  refine ⟨w', D.del (.string s.data.toList), hrun, ⟨hmap, fun k => ?_, fun k => ?_, fun k => ?_, fun k hk => ?_, fun k k' hne hk hk' => ?_⟩, hg'⟩
  · by_cases e : k = s.data.toList
    · subst e; rw [atKey_del_same]; simp
    · rw [atKey_del_other (by simpa using e), h.val]; simp [e]
  · by_cases e : k = s.data.toList
    · subst e; rw [has_del_same]; simp
    · rw [has_del_other (by simpa using e), h.key]; simp [e]
  · by_cases e : k = s.data.toList
    · simp only [if_pos e]
      exact World.ownsRow_nil _ _ _ _
    · simp only [if_neg e]
      exact row_keep (h.row k) fun g hgv => hg'.block g (row_block (h.row k) hgv).2.1 (ne_map h.map (h.row k) hgv)
  · by_cases e : k = s.data.toList
    · simp only [if_pos e]
    · simp only [if_neg e] at hk ⊢; exact h.nil k hk
  · by_cases e : k = s.data.toList
    · simp only [if_pos e] at hk; exact absurd rfl hk
    · by_cases e' : k' = s.data.toList
      · simp only [if_pos e'] at hk'; exact absurd rfl hk'
      · simp only [if_neg e] at hk
        simp only [if_neg e'] at hk'
        simp only [if_neg e, if_neg e']
        exact h.apart k k' hne hk hk'
/-- a name struck -/
theorem MSAt.del0 {w0 w : World} {B b n : Nat} {D : DataW Value} {F : List UInt8 → List α} {V : List UInt8 → Value} (h : MSAt K w0 B b n D F V) (hmap0 : w.ownsMap Tryz.prog 9 sliceElem b n D) {t e : TypeId} (ht : Tryz.prog.underlying t = some (.map 9 e)) {s : ByteArray} (hs : s.size ≤ maxLen) (hrow : ∀ k, k ≠ s.data.toList → w.ownsRow B K.e K.s (V k) (F k).length (K.flat (F k))) (ty : TypeId) :
    ∃ w' D', (Builtin.delete_ #[t, 9] ty #[.map (some b), .string s]).run Tryz.prog w = .ok (.tuple #[]) w' ∧ MSAt K w' B b n D' (fun k => if k = s.data.toList then [] else F k) (fun k => if k = s.data.toList then .slice none 0 0 else V k) ∧ w.grownBy w' (some b) := by
  obtain ⟨w', hrun, hmap, hg⟩ := hmap0.drop (string_keyed Tryz.underlying9) ht (keyM hs) ty
  have hg' : w.grownBy w' (some b) := hg.grown
  refine ⟨w', D.del (.string s.data.toList), hrun, ⟨hmap, fun k => ?_, fun k => ?_, fun k => ?_, fun k hk => ?_, fun k k' hne hk hk' => ?_⟩, hg'⟩
  · by_cases e : k = s.data.toList
    · subst e; rw [atKey_del_same]; simp
    · rw [atKey_del_other (by simpa using e), h.val]; simp [e]
  · by_cases e : k = s.data.toList
    · subst e; rw [has_del_same]; simp
    · rw [has_del_other (by simpa using e), h.key]; simp [e]
  · by_cases e : k = s.data.toList
    · simp only [if_pos e]
      exact World.ownsRow_nil _ _ _ _
    · simp only [if_neg e]
      exact row_keep (hrow k e) fun g hgv => hg'.block g (row_block (hrow k e) hgv).2.1 (ne_map hmap0 (hrow k e) hgv)
  · by_cases e : k = s.data.toList
    · simp only [if_pos e]
    · simp only [if_neg e] at hk ⊢; exact h.nil k hk
  · by_cases e : k = s.data.toList
    · simp only [if_pos e] at hk; exact absurd rfl hk
    · by_cases e' : k' = s.data.toList
      · simp only [if_pos e'] at hk'; exact absurd rfl hk'
      · simp only [if_neg e] at hk
        simp only [if_neg e'] at hk'
        simp only [if_neg e, if_neg e']
        exact h.apart k k' hne hk hk'
end Go.Proofs.YtmgnlgobkkfjhaaGreatDoor
