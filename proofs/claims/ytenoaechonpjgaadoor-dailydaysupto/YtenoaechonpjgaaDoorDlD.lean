/- daily: behind (30). -/
import Derived.Test.YtenoaechonpjgaaDoorDlC
import Derived.Deep.MidRow
import Derived.Deep.DeepCutAuto
namespace Go.Proofs.YtenoaechonpjgaaDoor
open Go Go.Shelf Go.ChangeShapes Go.WideShapes Go.ChangeAt Go.RowKit Go.Maps Go.Sort
set_option linter.unusedVariables false
def ld74 (x : Value) : Sem Value := Instr.loadAt 74 x
theorem ld74_is (x : Value) : Instr.loadAt 74 x = ld74 x := rfl
theorem size74 : (Tryd.prog.info? 74).map (·.size) = some 2 := by kernel_rfl
theorem run_ld74 {w : World} {b o : Nat} {x y : Int} (h : w.rangeAt b o [.int .i64 x, .int .i64 y]) : (ld74 (.pointer (some ⟨b, o, none⟩))).run Tryd.prog w = .ok (.agg #[.int .i64 x, .int .i64 y]) w :=
  run_loadAt_mid (P := Tryd.prog) w b o 74 [.int .i64 x, .int .i64 y] _ h Tryd.underlying74 rfl size74
def ld82 (x : Value) : Sem Value := Instr.loadAt 82 x
theorem ld82_is (x : Value) : Instr.loadAt 82 x = ld82 x := rfl
theorem size82 : (Tryd.prog.info? 82).map (·.size) = some 3 := by kernel_rfl
theorem run_ld82 {w : World} {b o : Nat} {x y z : Int} (h : w.rangeAt b o [.int .i64 x, .int .i64 y, .int .i64 z]) : (ld82 (.pointer (some ⟨b, o, none⟩))).run Tryd.prog w = .ok (.agg #[.int .i64 x, .int .i64 y, .int .i64 z]) w :=
  run_loadAt_mid (P := Tryd.prog) w b o 82 [.int .i64 x, .int .i64 y, .int .i64 z] _ h Tryd.underlying82 rfl size82
attribute [local go_sem ↓] ld74_is ld82_is
theorem some_row {W : World} {B e s n c : Nat} {p : Option Addr} {xs : List Value} (h : W.ownsRow B e s (.slice p n c) n xs) (hn : 0 < n) : ∃ g, p = some ⟨g, 0, none⟩ ∧ n ≤ c ∧ B ≤ g := by
  rcases h.2 with ⟨e, h2⟩ | ⟨g, cap, cur, e, hB, hh, hc, h3⟩
  · omega
  · cases e
    exact ⟨g, rfl, hc, hB⟩
set_option maxRecDepth 100000 in
set_option maxHeartbeats 8000000 in
theorem behind_any {W : World} {p : Option Addr} {c : Nat} {S : List Mk} (hS : Lies kM W p S) (hu : S.Pairwise fun a b => a.1 < b.1) (hpc : p = none → c = 0) (hSc : S.length ≤ c) (hSl : S.length ≤ 274877906944) {ad : Addr} {cM nM : Nat} {M : List (Int × Int)} (hnM : M.length = nM) (hM1 : 0 < nM) (hMl : nM ≤ 274877906944) (hM : Lies kT W (some ad) M) :
    Calls Tryd.prog 30 #[.slice p S.length c, .slice (some ad) nM cM] W fun e w' => ∃ (st g c' n : Nat) (A : List (Int × Int)), e = .returned (.tuple #[.int .i64 st, .slice (some ⟨g, 0, none⟩) n c']) ∧ st ≤ S.length ∧ A.length = n ∧ n ≤ c' ∧ A.Perm (M ++ tld (S.drop st)) ∧ A.Pairwise (fun a b => a.1 ≤ b.1) ∧ (∀ m ∈ S.take st, ∀ x ∈ M, m.1 < x.1) ∧ Lies kT w' (some ⟨g, 0, none⟩) A ∧ Below W.heap.size W w' := by
  have HS := hide hS; have HU := hide hu; have HM := hide hM; have HNM := hide hnM; have HPC := hide hpc
  obtain ⟨N, hN⟩ : ∃ N, N = S.length := ⟨_, rfl⟩
  have HN := hide hN
  rw [← hN] at hSc hSl ⊢
  obtain ⟨bM, oM, sM⟩ := ad
  obtain ⟨b0, o0, e0, hbM, hjunk⟩ := hM.2 0 (by omega)
  cases e0
  clear hjunk hS hu hM hnM hN hpc
  go_enter Tryd.func30, Tryd.ntmps30
  go_wp2_with fail
  go_loopw [6, 16] (fun v6 v16 wr => ∃ (k st : Nat), v16 = .int .i64 k ∧ v6 = .int .i64 st ∧ k ≤ nM ∧ st ≤ N ∧ Hid ((∀ m ∈ S.take st, ∀ x ∈ M.take k, m.1 < x.1) ∧ Below W.heap.size W wr)) (fun _ v16 _ => nM - (intOf v16).toNat)
  case atStart => exact ⟨0, N, rfl, rfl, by omega, by omega, (fun m _ x hx => by simp at hx), Below.refl _ _⟩
  case round =>
    obtain ⟨k, st, rfl, rfl, hk, hst, hrel⟩ := hrel
    obtain ⟨hlt, hbel⟩ := unhide hrel
    by_cases hkn : k < nM
    · have hkM : k < M.length := by rw [unhide HNM]; exact hkn
      obtain ⟨b1, o1, e1, hb1, hr1⟩ := (unhide HM).2 k hkM
      cases e1
      obtain ⟨x, y, hxy⟩ : ∃ x y, M[k] = (x, y) := ⟨_, _, rfl⟩
      have hrw : wr.rangeAt bM (oM + k * 2) [.int .i64 x, .int .i64 y] := fun j u hu => by
        rw [hxy] at hr1
        exact (hbel.cell (p := ⟨bM, oM + k * 2 + j, none⟩) hb1).trans (hr1 j u hu)
      have hld := run_ld74 hrw
      have hbA : Below W.heap.size W (wr.alloc (.cells #[.int .i64 x, .int .i64 y] 74)) := hbel.alloc hbel.size _
      have dA := hide (ahead_any S (unhide HU) (by rw [← unhide HN]; omega) p c x _ ((unhide HS).below hbA))
      rw [← unhide HN] at dA
      have HUP : Hid (∀ (r : Nat) w', r ≤ N → (∀ j, j < r → dayOf S j < x) → Below (wr.alloc (.cells #[.int .i64 x, .int .i64 y] 74)).heap.size (wr.alloc (.cells #[.int .i64 x, .int .i64 y] 74)) w' → (∀ m ∈ S.take (min st r), ∀ z ∈ M.take (k + 1), m.1 < z.1) ∧ Below W.heap.size W w') := fun r w' hr hd hb => by
        refine ⟨fun m hm z hz => ?_, hbA.trans (hb.mono hbA.size)⟩
        rw [List.take_succ_eq_append_getElem hkM, hxy] at hz
        have hm1 : m ∈ S.take st := (List.take_sublist_take_left (by omega)).subset hm
        rcases List.mem_append.1 hz with hz | hz
        · exact hlt m hm1 z hz
        · rw [List.mem_singleton] at hz
          subst hz
          have hm2 : m ∈ S.take r := (List.take_sublist_take_left (by omega)).subset hm
          obtain ⟨j, hj, rfl⟩ := List.mem_iff_getElem.1 hm2
          rw [List.length_take] at hj
          have hjS : j < S.length := by omega
          have := hd j (by omega)
          rw [dayOf_lt hjS] at this
          rw [List.getElem_take]
          exact this
      clear hlt hbel hr1 hrw hbA hxy hrel
      go_wp2_with fail
      refine (unhide dA).mono ?_
      rintro e w' ⟨r, rfl, hr, h1, h2, hb⟩
      have HF := hide (unhide HUP r w' hr h1 hb)
      clear h1 h2 hb dA HUP hld
      obtain ⟨st', hst'⟩ : ∃ st', st' = min st r := ⟨_, rfl⟩
      rw [← hst'] at HF
      have hmi : min (st : Int) r = st' := by omega
      go_wp2_with fail
      refine ⟨⟨k + 1, st', by simp, by first | rfl | (simp; omega), by omega, by omega, unhide HF⟩, by simp [intOf]; omega⟩
    · have e : k = nM := by omega
      subst e
      have eM : M.take k = M := List.take_of_length_le (by rw [unhide HNM]; omega)
      rw [eM] at hlt
      clear eM
      have hSr := (unhide HS).below hbel
      have hMr := (unhide HM).below hbel
      have dC := hide (clone_any (c := cM) (unhide HNM) (by omega) hMr)
      have HLT := hide hlt; have HB := hide hbel
      clear hlt hbel hrel hSr hMr hkn
      go_wp2_with fail
      refine (unhide dC).mono ?_
      rintro e w2 ⟨g2, c2, rfl, hown2, hb2⟩
      have hB2 : Below W.heap.size W w2 := (unhide HB).trans (hb2.mono (unhide HB).size)
      have hown2' : w2.ownsRow W.heap.size kT.e kT.s (.slice (some ⟨g2, 0, none⟩) k c2) k (kT.flat M) := row_le hown2 (unhide HB).size
      have HO2 := hide hown2'; have HB2 := hide hB2
      clear hown2 hown2' hb2 hB2 dC
      go_upto_region 8 with fail
      go_cut [0, 12, 31, 32, 33] (fun v0 v12 v31 v32 v33 wx => v0 = .slice p N c ∧ v12 = .slice p N c ∧ ∃ (q : Option Addr) (m c3 : Nat), v31 = .slice q m c3 ∧ v32 = .int .i64 m ∧ v33 = .int .i64 0 ∧ st + m = N ∧ Hid (wx = w2 ∧ Lies kM W q (S.drop st)))
      case first =>
        cases p with
        | none =>
          have hz : N = 0 := by
            have := (unhide HS).1 rfl
            rw [unhide HN, this]
            rfl
          have hc0 := unhide HPC rfl
          have hSn : S = [] := (unhide HS).1 rfl
          subst hz hc0
          have hst0 : st = 0 := by omega
          subst hst0
          go_wp2_with fail
          go_meet
          exact ⟨rfl, rfl, none, 0, 0, rfl, rfl, rfl, rfl, rfl, by rw [hSn]; exact Lies.nil _ _⟩
        | some a =>
          obtain ⟨bS, oS, sS⟩ := a
          by_cases hcs : c = st
          · have hNs : N = st := by omega
            have hd0 : S.drop st = [] := List.drop_eq_nil_of_le (by rw [← unhide HN]; omega)
            go_wp2_with fail
            go_meet
            exact ⟨by rw [hcs], by rw [hcs], some ⟨bS, oS, sS⟩, 0, 0, rfl, rfl, rfl, by omega, rfl, by rw [hd0]; exact Lies.nil _ _⟩
          · by_cases hN0 : N = 0
            · have hst0 : st = 0 := by omega
              have hd0 : S.drop st = [] := List.drop_eq_nil_of_le (by rw [← unhide HN]; omega)
              go_wp2_with fail
              go_meet
              exact ⟨by first | rfl | rw [hN0], by first | rfl | rw [hN0], some ⟨bS, oS, sS⟩, 0, c, rfl, rfl, rfl, by omega, rfl, by rw [hd0]; exact Lies.nil _ _⟩
            · have hsS : sS = none := by
                obtain ⟨b', o', e', _⟩ := (unhide HS).2 0 (by rw [← unhide HN]; omega)
                cases e'
                rfl
              subst hsS
              have hpt := (unhide HS).part st (N - st)
              rw [List.take_of_length_le (by rw [List.length_drop, ← unhide HN]; omega)] at hpt
              have HPT := hide hpt
              clear hpt
              go_wp2_with fail
              go_meet
              refine ⟨rfl, rfl, _, N - st, _, rfl, ?_, rfl, by omega, rfl, unhide HPT⟩
              simp
      obtain ⟨rfl, rfl, q, m, c3, rfl, rfl, rfl, hstm, hwq⟩ := hcut
      obtain ⟨hwc, hq⟩ := unhide hwq
      rw [hwc]
      have HQ := hide hq
      clear hwq hwc hq wc
      obtain ⟨D, hD⟩ : ∃ D, D = S.drop st := ⟨_, rfl⟩
      have HDl : Hid (D.length = m) := by show _ = _; rw [hD, List.length_drop, ← unhide HN]; omega
      rw [← hD] at HQ
      have HD := hide hD
      clear hD
      go_wp2_with fail
      go_loopw [9, 33] (fun v9 v33 wr => ∃ (j c9 : Nat) (p9 : Option Addr), v33 = .int .i64 j ∧ v9 = .slice p9 (k + j) c9 ∧ j ≤ m ∧ Hid (wr.ownsRow W.heap.size kT.e kT.s (.slice p9 (k + j) c9) (k + j) (kT.flat (M ++ tld (D.take j))) ∧ Below W.heap.size W wr)) (fun _ v33 _ => m - (intOf v33).toNat)
      case atStart => exact ⟨0, c2, _, rfl, rfl, by omega, by simpa [tld] using unhide HO2, unhide HB2⟩
      case round =>
        obtain ⟨j, c9, p9, rfl, rfl, hj, hrel⟩ := hrel
        obtain ⟨hown, hbel⟩ := unhide hrel
        by_cases hjm : j < m
        · have hjD : j < D.length := by rw [unhide HDl]; exact hjm
          obtain ⟨bq, oq, eq1, hbq, hrq⟩ := (unhide HQ).2 j hjD
          subst eq1
          obtain ⟨x, y, z, hxyz⟩ : ∃ x y z, D[j] = (x, y, z) := ⟨_, _, _, rfl⟩
          have hrw : wr.rangeAt bq (oq + j * 3) [.int .i64 x, .int .i64 y, .int .i64 z] := fun i u hu => by
            rw [hxyz] at hrq
            exact (hbel.cell (p := ⟨bq, oq + j * 3 + i, none⟩) hbq).trans (hrq i u hu)
          have hld := run_ld82 hrw
          obtain ⟨O1, hO1⟩ : ∃ O, O = Obj.cells #[.int .i64 x, .int .i64 y, .int .i64 z] 82 := ⟨_, rfl⟩
          obtain ⟨O2, hO2⟩ : ∃ O, O = Obj.cells #[.int .i64 x, .int .i64 y] 74 := ⟨_, rfl⟩
          have hld2 : (ld74 (.pointer (some ⟨wr.heap.size, 0, none⟩))).run Tryd.prog (wr.alloc O1) = .ok (.agg #[.int .i64 x, .int .i64 y]) (wr.alloc O1) := run_ld74 (fun i u hu => by
            rw [hO1, World.cell?_alloc_mark, Nat.zero_add]
            rcases i with _ | _ | i
            · simpa using hu
            · simpa using hu
            · simp at hu)
          have hb1 : Below W.heap.size W (wr.alloc O1) := hbel.alloc hbel.size _
          have hb2 : Below W.heap.size W ((wr.alloc O1).alloc O2) := hb1.alloc hb1.size _
          have e1 : (wr.alloc O1).heap.size = wr.heap.size + 1 := by simp
          obtain ⟨p', c', w', hr, ho, hb, _, _⟩ := run_app kT_ok (L := M ++ tld (D.take j)) (M := [(x, y)]) 53 ((hown.alloc O1).alloc O2) hb2.size (some ⟨wr.heap.size + 1, 0, none⟩) 1 (fun h => by cases h) (by rw [← e1, hO2]; exact one_lies _ (x, y) 74 _ rfl) (by simp; omega)
          rw [List.length_singleton] at hr ho
          have hetk : tld (D.take (j + 1)) = tld (D.take j) ++ [(x, y)] := by
            unfold tld
            rw [List.take_succ_eq_append_getElem hjD, List.map_append, hxyz]
            rfl
          have HFIN : Hid (w'.ownsRow W.heap.size kT.e kT.s (.slice p' (k + (j + 1)) c') (k + (j + 1)) (kT.flat (M ++ tld (D.take (j + 1)))) ∧ Below W.heap.size W w') := by
            refine ⟨?_, hb2.trans hb⟩
            rw [hetk, ← List.append_assoc]
            exact ho
          have HR := hide hr
          clear hr ho hb hb1 hb2 hetk hown hbel hrq hrw hxyz hrel hjD
          subst hO1 hO2
          go_wp2_with (at_builtin; refine wpList_append_run rfl _ _ 53 rfl _ _ _ _ rfl rfl (unhide HR) ?_)
          refine ⟨⟨j + 1, c', p', by simp, by rw [Nat.add_assoc], by omega, unhide HFIN⟩, by simp [intOf]; omega⟩
        · have ej : j = m := by omega
          subst ej
          have eD : D.take j = D := List.take_of_length_le (by rw [unhide HDl]; omega)
          rw [eD] at hown
          obtain ⟨g9, hp9, hc9, hB9⟩ := some_row hown (by omega)
          subst hp9
          have hlenA : (M ++ tld D).length = k + j := by rw [List.length_append, unhide HNM]; unfold tld; rw [List.length_map, unhide HDl]
          have dS := hide (sort_any hlenA (by omega) hbel.size hown)
          have HB9 := hide hbel
          clear hown hbel hrel hjm eD hlenA
          go_wp2_with fail
          refine (unhide dS).mono ?_
          rintro e w9 ⟨rfl, A, hperm, hsrt, hlA, hb9⟩
          have hlA2 : A.length = k + j := by
            have h1 := hperm.length_eq
            rw [List.length_append, unhide HNM] at h1
            unfold tld at h1
            rw [List.length_map, unhide HDl] at h1
            exact h1
          rw [unhide HD] at hperm
          have HFIN := hide (show ∃ (st' g' c' n' : Nat) (A' : List (Int × Int)), Ending.returned (.tuple #[.int .i64 st, .slice (some ⟨g9, 0, none⟩) (k + j) c9]) = .returned (.tuple #[.int .i64 st', .slice (some ⟨g', 0, none⟩) n' c']) ∧ st' ≤ N ∧ A'.length = n' ∧ n' ≤ c' ∧ A'.Perm (M ++ tld (S.drop st')) ∧ A'.Pairwise (fun a b => a.1 ≤ b.1) ∧ (∀ m ∈ S.take st', ∀ x ∈ M, m.1 < x.1) ∧ Lies kT w9 (some ⟨g', 0, none⟩) A' ∧ Below W.heap.size W w9 from ⟨st, g9, c9, k + j, A, rfl, by omega, hlA2, hc9, hperm, hsrt, unhide HLT, hlA, (unhide HB9).trans hb9⟩)
          clear hperm hsrt hlA hb9 hlA2 dS
          go_wp2_with fail
          go_ret2
          exact unhide HFIN
end Go.Proofs.YtenoaechonpjgaaDoor
