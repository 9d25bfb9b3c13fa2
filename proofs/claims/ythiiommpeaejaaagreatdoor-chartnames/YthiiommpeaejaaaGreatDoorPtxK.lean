/- The keeper's book: looked at (129). -/
import Derived.Test.YthiiommpeaejaaaGreatDoorPtxJ
namespace Go.Proofs.YthiiommpeaejaaaGreatDoor
open Go Go.ChangeShapes Go.WideShapes Go.ChangeAt Go.RowKit
set_option linter.unusedVariables false
attribute [local go_sem] setCell_drewN alloc_drewN
theorem shows_page (p : Pg) (w : World) (h : p.OK w) (hs : p.s ≠ 1) (hP : Pw w) : Calls Tryz.prog 178 #[.agg #[p.L, p.G, p.W, .int .i64 (p.id : Int), .bool (decide (0 < p.s))]] w fun e w' => e = .returned (.bool true) ∧ Below w.heap.size w w' := by
  obtain ⟨L, n, G, W, id, s, f⟩ := p
  have hle := h.le
  have hid := h.idl
  have h3 := h.s3
  simp only at hs hle hid h3
  have hcase : s = 0 ∨ s = 2 := by omega
  rcases hcase with rfl | rfl
  · obtain ⟨h1, h2, h4, _, gw, cw, h5⟩ := h.s0 rfl
    simp only at h1 h2 h4 h5
    subst h2 h5
    rcases LShows.of_own h1 with ⟨rfl, rfl⟩ | ⟨gb, cap, rfl, hlt, hc⟩
    · exact shows_bare _ _ _
    · refine shows_kept f gb gw n cap cw id hle w (fun _ => hlt) (fun _ => (h4.lt gw rfl).2) (hide hc) (hide fun k hk => ?_)
      rw [h4.cellAt k (by omega)]
      exact scells_get f n k hk
  · obtain ⟨h1, h2⟩ := h.s2 rfl
    simp only at h1 h2
    obtain ⟨g, c, hv⟩ := own_open h2 (by omega)
    subst hv
    rcases h1 with ⟨rfl, rfl⟩ | ⟨gb, cap, rfl, hlt, hc⟩
    · have hd : ∀ k, k < 64 → w.cell? ⟨g, k, none⟩ = some (.string (mkS (id + 100000) k)) := fun k hk => by
        rw [h2.cellAt k (by omega), scells_get _ _ _ (by omega)]
        have e := cat_ge (f := mkS id) (g := mkS (id + 100000)) (n := 0) k
        rw [Nat.zero_add] at e
        rw [e]
      have := shows_done0 g c id W hid w hP (h2.lt g rfl).2 (hide hd)
      rw [Nat.zero_add]
      exact this
    · refine shows_done gb g n cap c id W hle hid w hP hlt (h2.lt g rfl).2 (hide hc) (hide fun k hk => ?_)
      rw [h2.cellAt k (by omega)]
      exact scells_get _ _ k hk
/-- a page's cells in its book's row -/
theorem BookAt.cell {w : World} {bk m k g6 c6 : Nat} {p : Nat → Pg} (h : BookAt w bk m k (.slice (some ⟨g6, 0, none⟩) m c6) p) (i : Nat) (hi : i < m) (c : Nat) (hc : c < 5) : w.cell? ⟨g6, i * 5 + c, none⟩ = (p i).cells[c]? := by
  rw [h.row.cellAt (i * 5 + c) (by omega)]
  exact pages_get p c hc m i hi
set_option maxRecDepth 100000 in
set_option maxHeartbeats 4000000 in
theorem intact_book {w : World} {bk m k : Nat} {R : Value} {p : Nat → Pg} (h : BookAt w bk m k R p) (hm : m ≤ 96) (hs : ∀ i, i < m → (p i).s ≠ 1) : Calls Tryz.prog 92 #[.pointer (some ⟨bk, 0, none⟩)] w fun e w' => e = .returned (.bool true) ∧ Below w.heap.size w w' := by
  have HB := hide h
  have HS := hide hs
  have hR : ∃ pa pc, R = .slice pa m pc ∧ (0 < m → ∃ g6, pa = some ⟨g6, 0, none⟩) := by
    rcases h.row.2 with ⟨h1, h2⟩ | ⟨g, c, cur, h1, _⟩
    · exact ⟨none, 0, by rw [h1, h2], fun h => by omega⟩
    · exact ⟨_, c, h1, fun _ => ⟨g, rfl⟩⟩
  obtain ⟨pa, pc, rfl, hpa⟩ := hR
  have HPA := hide hpa
  have hc1 := h.c1
  clear h hs hpa
  go_enter Tryz.func92, Tryz.ntmps92
  go_wp2_with fail
  go_loopw [3] (fun i wr => ∃ (j : Nat), j ≤ m ∧ i = .int .i64 (j : Int) ∧ Below w.heap.size w wr) (fun i _ => m - (intOf i).toNat)
  case atStart => exact ⟨0, by omega, rfl, Below.refl _ _⟩
  case round =>
    obtain ⟨j, hj, rfl, hb⟩ := hrel
    have hbr := (unhide HB).below hb
    have l1 := hbr.c1
    have HBE := hide hb
    clear hc1
    by_cases hlt : j < m
    · obtain ⟨g6, rfl⟩ := unhide HPA (by omega)
      have a0 := hbr.cell j hlt 0 (by omega)
      have a1 := hbr.cell j hlt 1 (by omega)
      have a2 := hbr.cell j hlt 2 (by omega)
      have a3 := hbr.cell j hlt 3 (by omega)
      have a4 := hbr.cell j hlt 4 (by omega)
      simp only [Pg.cells, List.getElem?_cons_zero, List.getElem?_cons_succ, Nat.add_zero] at a0 a1 a2 a3 a4
      have hsh := hide (shows_page (p j) wr (hbr.ok j hlt) (unhide HS j hlt) hbr.tab)
      have hI : (j : Int) < (m : Int) := by omega
      have hI0 : (0 : Int) ≤ (j : Int) := by omega
      clear hbr hb
      go_wp2_with fail
      refine (unhide hsh).mono ?_
      rintro e w2 ⟨rfl, hb2⟩
      have HB2 := hide hb2
      clear hb2
      go_wp2_with fail
      refine ⟨⟨j + 1, by omega, by go_num, ?_⟩, by simp [intOf]; omega⟩
      exact (unhide HBE).trans ((unhide HB2).mono (unhide HBE).size)
    · have hjm : j = m := by omega
      subst hjm
      have hI : ¬ (j : Int) < (j : Int) := by omega
      clear hbr hb
      go_wp2_with fail
      go_ret
      exact ⟨rfl, unhide HBE⟩
end Go.Proofs.YthiiommpeaejaaaGreatDoor
