import Derived.Test.YtdeibifjiefapaaGreatDoorW31
/- The keeper's pages of accounts: shows (179), intact (107), all filled (42), all grown (62). By tools/genkc.py. -/
namespace Go.Proofs.YtdeibifjiefapaaGreatDoor.Kg
open Go Go.Shelf Go.ChangeShapes Go.WideShapes Go.ChangeAt Go.RowKit Go.Maps
set_option linter.unusedVariables false
set_option linter.unusedSimpArgs false
attribute [local go_sem ↓] ldKD_is
/-- a page laid out in a block -/
structure PgAtD (w : World) (b : Nat) (L G S : Value) (id : Nat) (d : Bool) : Prop where
  a0 : w.cell? ⟨b, 0, none⟩ = some L
  a1 : w.cell? ⟨b, 1, none⟩ = some G
  a2 : w.cell? ⟨b, 2, none⟩ = some S
  a3 : w.cell? ⟨b, 3, none⟩ = some (.int .i64 (id : Int))
  a4 : w.cell? ⟨b, 4, none⟩ = some (.bool d)
theorem PgAtD.new (w : World) (L G S : Value) (id : Nat) (d : Bool) : PgAtD (w.alloc (.cells #[L, G, S, .int .i64 (id : Int), .bool d] 114)) w.heap.size L G S id d := ⟨by simp, by simp, by simp, by simp, by simp⟩
theorem PgAtD.below {w w' : World} {b id : Nat} {L G S : Value} {d : Bool} (h : PgAtD w b L G S id d) (hb : Below w.heap.size w w') : PgAtD w' b L G S id d := by
  have hlt : b < w.heap.size := World.block_lt_of_cell? w ⟨b, 0, none⟩ h.a0
  exact ⟨keep1 hb hlt h.a0, keep1 hb hlt h.a1, keep1 hb hlt h.a2, keep1 hb hlt h.a3, keep1 hb hlt h.a4⟩
/-- an element of a list that lies there is loaded, whatever has come behind -/
theorem ldBD {w : World} {pp : Option Addr} {M : List Am} (h : Lies kD w pp M) {k : Nat} (hk : k < M.length) : ∃ b off, pp = some ⟨b, off, none⟩ ∧ ∀ W, Below w.heap.size w W → (ldKD (.pointer (some ⟨b, off + k * 4, none⟩))).run Tryz.prog W = .ok (cvD M[k]) W := by
  obtain ⟨b, off, e, hlt, hr⟩ := h.2 k hk
  exact ⟨b, off, e, fun W hW => run_ldKD (fun j u hu => (hW.cell (p := ⟨b, off + k * 4 + j, none⟩) hlt).trans (hr j u hu))⟩
set_option maxRecDepth 100000 in
set_option maxHeartbeats 4000000 in
theorem showKD (X : List Am) (pL pS : Option Addr) (n cb cc id : Nat) (hX : X.length = n) (hn : n ≤ 900000) (w : World) (hL : Lies kD w pL X) (hS : Lies kD w pS X) :
    Calls Tryz.prog 179 #[.agg #[.slice pL n cb, .slice none 0 0, .slice pS n cc, .int .i64 (id : Int), .bool false]] w fun e w' => e = .returned (.bool true) ∧ Below w.heap.size w w' := by
  obtain ⟨W0, hW0⟩ : ∃ W0, W0 = w.alloc (.cells #[.slice pL n cb, .slice none 0 0, .slice pS n cc, .int .i64 (id : Int), .bool false] 114) := ⟨_, rfl⟩
  have B0 : Hid (Below w.heap.size w W0) := by rw [hW0]; exact bal (Below.refl _ _) _
  have PG : Hid (PgAtD W0 w.heap.size (.slice pL n cb) (.slice none 0 0) (.slice pS n cc) id false) := by rw [hW0]; exact PgAtD.new w _ _ _ id false
  have HL := hide (hL.below (unhide B0)); have HS := hide (hS.below (unhide B0)); have HX := hide hX
  have HW0 := hide hW0
  clear hW0 hL hS hX
  go_enter Tryz.func179, Tryz.ntmps179
  go_wp2_with fail
  go_loopw [4] (fun i wr => ∃ (k : Nat), k ≤ n ∧ i = .int .i64 (k : Int) ∧ Hid (Below W0.heap.size W0 wr)) (fun i _ => n - (intOf i).toNat)
  case atStart => exact ⟨0, by omega, rfl, by rw [unhide HW0]; exact Below.refl _ _⟩
  case round =>
    obtain ⟨k, hk, rfl, HB⟩ := hrel
    have hbr := unhide HB
    have pg := (unhide PG).below hbr
    by_cases hlt : k < n
    · have hwr : w.heap.size < wr.heap.size := World.block_lt_of_cell? wr ⟨w.heap.size, 0, none⟩ pg.a0
      obtain ⟨b1, o1, e1, r1⟩ := ldBD ((unhide HL).below hbr) (k := k) (by rw [unhide HX]; exact hlt)
      obtain ⟨b2, o2, e2, r2⟩ := ldBD ((unhide HS).below hbr) (k := k) (by rw [unhide HX]; exact hlt)
      subst e1 e2
      obtain ⟨vx, hvx⟩ : ∃ vx, vx = cvD (X[k]'(by rw [unhide HX]; exact hlt)) := ⟨_, rfl⟩
      rw [← hvx] at r1 r2
      have x0 : ∀ P : Bel wr, (ldKD (.pointer (some ⟨b1, o1 + k * 4, none⟩))).run Tryz.prog P.W = .ok vx P.W := fun P => r1 P.W P.h
      have y0 : ∀ P : Bel wr, (ldKD (.pointer (some ⟨b2, o2 + k * 4, none⟩))).run Tryz.prog P.W = .ok vx P.W := fun P => r2 P.W P.h
      have p0 : ∀ P : Bel wr, P.W.cell? ⟨w.heap.size, 0, none⟩ = some (.slice (some ⟨b1, o1, none⟩) n cb) := fun P => keep1 P.h hwr pg.a0
      have p2 : ∀ P : Bel wr, P.W.cell? ⟨w.heap.size, 2, none⟩ = some (.slice (some ⟨b2, o2, none⟩) n cc) := fun P => keep1 P.h hwr pg.a2
      have p4 : ∀ P : Bel wr, P.W.cell? ⟨w.heap.size, 4, none⟩ = some (.bool false) := fun P => keep1 P.h hwr pg.a4
      have HSM : Hid (∀ P : Bel wr, Calls Tryz.prog 79 #[vx, vx] P.W fun e w'' => e = .returned (.bool true) ∧ ∃ q : Bel wr, w'' = q.W) := fun P => by
        rw [hvx]
        exact (eqkD _ P.W).mono (fun e w' ⟨h1, h2⟩ => ⟨h1, ⟨w', P.h.trans (h2.mono P.h.size)⟩, rfl⟩)
      have hI : (k : Int) < (n : Int) := by omega
      have hI0 : (0 : Int) ≤ (k : Int) := by omega
      clear r1 r2 hvx PG pg hbr HW0 HL HS
      go_wp2_with fail
      refine wp_region_quiet_below (by kernel_rfl) (by kernel_rfl) ?_
      repeat (go_big_quiet_step (first | (go_at_call 79; refine unhide HSM _)))
      refine wpQuiet_nil ?_
      rintro _ ⟨P, rfl⟩
      have p4' := p4 P
      clear p0 p2 p4 x0 y0
      go_wp2_with fail
      go_region
      all_goals go_wp2_with fail
      all_goals exact ⟨⟨k + 1, by omega, by go_num, below_drewN ((unhide HB).trans (P.h.mono (unhide HB).size)) 1⟩, by simp [intOf]; omega⟩
    · have hkn : k = n := by omega
      subst hkn
      have hI : ¬ (k : Int) < (k : Int) := by omega
      have p1 := pg.a1
      clear hbr pg PG
      go_wp2_with fail
      go_loopw [5] (fun i ww => i = .int .i64 (k : Int) ∧ ww = wr) (fun i _ => 0)
      case atStart => exact ⟨rfl, rfl⟩
      case round =>
        obtain ⟨rfl, rfl⟩ := hrel
        have hJ : ¬ (k : Int) < 0 := by omega
        go_wp2_with fail
        go_ret
        exact ⟨rfl, (unhide B0).trans ((unhide HB).mono (unhide B0).size)⟩
set_option maxRecDepth 100000 in
set_option maxHeartbeats 8000000 in
theorem showDD (pL pG : Option Addr) (n cb cc id : Nat) (S : Value) (hn : n ≤ 900000) (hid : id < 1000) (w : World) (hP : Pw w) (hL : Lies kD w pL (mks zD id n)) (hG : Lies kD w pG (mkm zD id n 64)) :
    Calls Tryz.prog 179 #[.agg #[.slice pL n cb, .slice pG (n + 64) cc, S, .int .i64 (id : Int), .bool true]] w fun e w' => e = .returned (.bool true) ∧ Below w.heap.size w w' := by
  obtain ⟨W0, hW0⟩ : ∃ W0, W0 = w.alloc (.cells #[.slice pL n cb, .slice pG (n + 64) cc, S, .int .i64 (id : Int), .bool true] 114) := ⟨_, rfl⟩
  have B0 : Hid (Below w.heap.size w W0) := by rw [hW0]; exact bal (Below.refl _ _) _
  have PG : Hid (PgAtD W0 w.heap.size (.slice pL n cb) (.slice pG (n + 64) cc) S id true) := by rw [hW0]; exact PgAtD.new w _ _ _ id true
  have HL := hide (hL.below (unhide B0)); have HG := hide (hG.below (unhide B0))
  have P0 := hide (hP.below (unhide B0))
  have HW0 := hide hW0
  clear hW0 hL hG hP
  go_enter Tryz.func179, Tryz.ntmps179
  go_wp2_with fail
  go_loopw [4] (fun i wr => ∃ (k : Nat), k ≤ n ∧ i = .int .i64 (k : Int) ∧ Hid (Below W0.heap.size W0 wr)) (fun i _ => n - (intOf i).toNat)
  case atStart => exact ⟨0, by omega, rfl, by rw [unhide HW0]; exact Below.refl _ _⟩
  case round =>
    obtain ⟨k, hk, rfl, HB⟩ := hrel
    have hbr := unhide HB
    have pg := (unhide PG).below hbr
    by_cases hlt : k < n
    · have hwr : w.heap.size < wr.heap.size := World.block_lt_of_cell? wr ⟨w.heap.size, 0, none⟩ pg.a0
      obtain ⟨b1, o1, e1, r1⟩ := ldBD ((unhide HL).below hbr) (k := k) (by rw [mks_len]; exact hlt)
      obtain ⟨b2, o2, e2, r2⟩ := ldBD ((unhide HG).below hbr) (k := k) (by rw [mkm_len]; omega)
      rw [mks_get] at r1
      rw [mkm_lt _ _ _ _ _ _ hlt] at r2
      subst e1 e2
      obtain ⟨vx, hvx⟩ : ∃ vx, vx = cvD (mkD id k) := ⟨_, rfl⟩
      change ∀ W, _ → _ = Result.ok (cvD (mkD id k)) W at r1
      change ∀ W, _ → _ = Result.ok (cvD (mkD id k)) W at r2
      rw [← hvx] at r1 r2
      have hI : (k : Int) < (n : Int) := by omega
      have hI0 : (0 : Int) ≤ (k : Int) := by omega
      have hI1 : (k : Int) < (n : Int) + 64 := by omega
      have hJ : (0 : Int) < (n : Int) + 64 := by omega
      have p4 := pg.a4
      have PGw := hide pg
      have HPw0 := hide ((unhide P0).below hbr)
      have R1 := hide r1; have R2 := hide r2; have HVX := hide hvx
      clear r1 r2 pg hbr hvx
      go_wp2_with fail
      go_region
      obtain ⟨wz, hz⟩ : ∃ wz, wz = wr.drew := ⟨_, rfl⟩
      rw [← hz]
      have bz : Below wr.heap.size wr wz := by rw [hz]; exact below_drewN (Below.refl _ _) 1
      have zz : wz.heap.size = wr.heap.size := by rw [hz]; rfl
      have bP : ∀ P : Bel wz, Below wr.heap.size wr P.W := fun P => bz.trans (P.h.mono (by omega))
      have x0 : ∀ P : Bel wz, (ldKD (.pointer (some ⟨b1, o1 + k * 4, none⟩))).run Tryz.prog P.W = .ok vx P.W := fun P => unhide R1 P.W (bP P)
      have y0 : ∀ P : Bel wz, (ldKD (.pointer (some ⟨b2, o2 + k * 4, none⟩))).run Tryz.prog P.W = .ok vx P.W := fun P => unhide R2 P.W (bP P)
      have p0 : ∀ P : Bel wz, P.W.cell? ⟨w.heap.size, 0, none⟩ = some (.slice (some ⟨b1, o1, none⟩) n cb) := fun P => keep1 (bP P) hwr (unhide PGw).a0
      have p1 : ∀ P : Bel wz, P.W.cell? ⟨w.heap.size, 1, none⟩ = some (.slice (some ⟨b2, o2, none⟩) (n + 64) cc) := fun P => keep1 (bP P) hwr (unhide PGw).a1
      have p3 : ∀ P : Bel wz, P.W.cell? ⟨w.heap.size, 3, none⟩ = some (.int .i64 (id : Int)) := fun P => keep1 (bP P) hwr (unhide PGw).a3
      have p4' : ∀ P : Bel wz, P.W.cell? ⟨w.heap.size, 4, none⟩ = some (.bool true) := fun P => keep1 (bP P) hwr (unhide PGw).a4
      have HMK : Hid (∀ P : Bel wz, Calls Tryz.prog 75 #[.int .i64 (id : Int), .int .i64 (k : Int)] P.W fun e w'' => e = .returned vx ∧ ∃ q : Bel wz, w'' = q.W) := fun P => by
        rw [unhide HVX]
        exact (markD id k (by omega) (by omega) P.W ((unhide HPw0).below (bP P))).mono (fun e w' ⟨h1, h2⟩ => ⟨h1, ⟨w', P.h.trans (h2.mono P.h.size)⟩, rfl⟩)
      have HSM : Hid (∀ P : Bel wz, Calls Tryz.prog 79 #[vx, vx] P.W fun e w'' => e = .returned (.bool true) ∧ ∃ q : Bel wz, w'' = q.W) := fun P => by
        rw [unhide HVX]
        exact (eqkD _ P.W).mono (fun e w' ⟨h1, h2⟩ => ⟨h1, ⟨w', P.h.trans (h2.mono P.h.size)⟩, rfl⟩)
      have HBZ := hide ((unhide HB).trans (bz.mono (unhide HB).size))
      clear bz zz hz p4 bP
      go_wp2_with fail
      refine wp_region_quiet_below (by kernel_rfl) (by kernel_rfl) ?_
      repeat (go_big_quiet_step (first | (go_at_call 79; refine unhide HSM _) | (go_at_call 75; refine unhide HMK _)))
      refine wpQuiet_nil ?_
      rintro _ ⟨P, rfl⟩
      clear p0 p1 p3 p4' x0 y0
      go_wp2_with fail
      exact ⟨⟨k + 1, by omega, by go_num, (unhide HBZ).trans (P.h.mono (unhide HBZ).size)⟩, by simp [intOf]; omega⟩
    · have hkn : k = n := by omega
      subst hkn
      have hI : ¬ (k : Int) < (k : Int) := by omega
      have p1 := pg.a1
      clear hbr pg
      go_wp2_with fail
      clear p1
      go_loopw [5] (fun i ww => ∃ (j : Nat) (K : Int), j ≤ 64 ∧ i = .int .i64 K ∧ K = (k : Int) + (j : Int) ∧ Hid (Below W0.heap.size W0 ww)) (fun i _ => ((k : Int) + 64 - intOf i).toNat)
      case atStart => exact ⟨0, (k : Int), by omega, rfl, by omega, unhide HB⟩
      case round =>
        obtain ⟨j, K, hj, rfl, hK, HQ⟩ := hrel
        have hq := unhide HQ
        have HK := hide hK
        have pgq := (unhide PG).below hq
        have hwz : w.heap.size < wr.heap.size := World.block_lt_of_cell? wr ⟨w.heap.size, 0, none⟩ pgq.a0
        have hK0 : 0 ≤ K := by omega
        have q1 := pgq.a1
        by_cases hlj : j < 64
        · have hI2 : K < (k : Int) + 64 := by omega
          have hKt : K.toNat = k + j := by omega
          have hKj : K - (k : Int) = (j : Int) := by omega
          have hwj : IntKind.i64.wrap (j : Int) = (j : Int) := by rw [IntKind.wrap_i64]; omega
          have hwK : IntKind.i64.wrap (K - (k : Int)) = (j : Int) := by rw [hKj, hwj]
          obtain ⟨b2, o2, e2, r2⟩ := ldBD ((unhide HG).below hq) (k := k + j) (by rw [mkm_len]; omega)
          rw [mkm_ge] at r2
          subst e2
          obtain ⟨vx, hvx⟩ : ∃ vx, vx = cvD (mkD (id + 100000) j) := ⟨_, rfl⟩
          change ∀ W, _ → _ = Result.ok (cvD (mkD (id + 100000) j)) W at r2
          rw [← hvx] at r2
          have y0 : ∀ P : Bel wr, (ldKD (.pointer (some ⟨b2, o2 + (k + j) * 4, none⟩))).run Tryz.prog P.W = .ok vx P.W := fun P => r2 P.W P.h
          have p1 : ∀ P : Bel wr, P.W.cell? ⟨w.heap.size, 1, none⟩ = some (.slice (some ⟨b2, o2, none⟩) (k + 64) cc) := fun P => keep1 P.h hwz pgq.a1
          have p3 : ∀ P : Bel wr, P.W.cell? ⟨w.heap.size, 3, none⟩ = some (.int .i64 (id : Int)) := fun P => keep1 P.h hwz pgq.a3
          have HPw : Hid (∀ P : Bel wr, Pw P.W) := fun P => ((unhide P0).below hq).below P.h
          have HBE : Hid (∀ P : Bel wr, Calls Tryz.prog 171 #[.int .i64 (id : Int)] P.W fun e w'' => e = .returned (.int .i64 ((id + 100000 : Nat) : Int)) ∧ ∃ q : Bel wr, w'' = q.W) := fun P =>
            (behind_any id hid P.W).mono (fun e w' ⟨h1, h2⟩ => ⟨h1, P, h2⟩)
          have HMK : Hid (∀ P : Bel wr, Calls Tryz.prog 75 #[.int .i64 ((id : Int) + 100000), .int .i64 (j : Int)] P.W fun e w'' => e = .returned vx ∧ ∃ q : Bel wr, w'' = q.W) := fun P => by
            have e : (id : Int) + 100000 = ((id + 100000 : Nat) : Int) := by omega
            rw [e, hvx]
            exact (markD (id + 100000) j (by omega) (by omega) P.W (unhide HPw P)).mono (fun e w' ⟨h1, h2⟩ => ⟨h1, ⟨w', P.h.trans (h2.mono P.h.size)⟩, rfl⟩)
          have HSM : Hid (∀ P : Bel wr, Calls Tryz.prog 79 #[vx, vx] P.W fun e w'' => e = .returned (.bool true) ∧ ∃ q : Bel wr, w'' = q.W) := fun P => by
            rw [hvx]
            exact (eqkD _ P.W).mono (fun e w' ⟨h1, h2⟩ => ⟨h1, ⟨w', P.h.trans (h2.mono P.h.size)⟩, rfl⟩)
          clear hq hK r2 pgq hvx
          go_wp2_with fail
          refine wp_region_quiet_below (by kernel_rfl) (by kernel_rfl) ?_
          repeat (go_big_quiet_step (first | (go_at_call 79; refine unhide HSM _) | (go_at_call 75; refine unhide HMK _) | (go_at_call 171; refine unhide HBE _)))
          refine wpQuiet_nil ?_
          rintro _ ⟨P, rfl⟩
          clear p1 p3 y0
          go_wp2_with fail
          refine ⟨⟨j + 1, K + 1, by omega, by go_num, by have := unhide HK; omega, (unhide HQ).trans (P.h.mono (unhide HQ).size)⟩, by have := unhide HK; simp [intOf]; omega⟩
        · have hI2 : ¬ K < (k : Int) + 64 := by omega
          clear hq hK pgq
          go_wp2_with fail
          go_ret
          exact ⟨rfl, (unhide B0).trans ((unhide HQ).mono (unhide B0).size)⟩
theorem showsD : ShowsC zD 179 := by
  intro p w h hs hP
  obtain ⟨L, n, G, W, id, s, X⟩ := p
  have hle := h.le
  have hid := h.idl
  have h3 := h.s3
  have hln := h.len
  simp only at hs hle hid h3 hln
  have hcase : s = 0 ∨ s = 2 := by omega
  rcases hcase with rfl | rfl
  · obtain ⟨h1, h2, h4⟩ := h.s0 rfl
    simp only at h1 h2 h4
    subst h2
    obtain ⟨pL, cL, rfl, _⟩ := row_slice h1
    obtain ⟨pW, cW, rfl, _⟩ := row_slice h4
    exact showKD X pL pW n cL cW id hln hle w (own_lies kD_ok hln h1) (own_lies kD_ok hln h4)
  · obtain ⟨⟨pL, cL, e1, h1⟩, h2⟩ := h.s2 rfl
    simp only at e1 h1 h2
    subst e1
    obtain ⟨pG, cG, rfl, _⟩ := row_slice h2
    exact showDD pL pG n cL cG id W hle hid w hP h1 (own_lies kD_ok (mkm_len _ _ _ _) h2)
set_option maxRecDepth 100000 in
set_option maxHeartbeats 4000000 in
theorem intactD {w : World} {bk m : Nat} {R : Value} {p : Nat → Pg Am} (h : KindAt zD w bk m R p) (hm : m ≤ 96) (hs : ∀ i, i < m → (p i).s ≠ 1) : Calls Tryz.prog 107 #[.pointer (some ⟨bk, 0, none⟩)] w fun e w' => e = .returned (.bool true) ∧ Below w.heap.size w w' := by
  have HB := hide h
  have HS := hide hs
  obtain ⟨pa, pc, rfl, hpa⟩ := book_row h
  have HPA := hide hpa
  have hc1 := h.c1
  simp only [zD] at hc1
  clear h hs hpa
  go_enter Tryz.func107, Tryz.ntmps107
  go_wp2_with fail
  go_loopw [3] (fun i wr => ∃ (j : Nat), j ≤ m ∧ i = .int .i64 (j : Int) ∧ Hid (Below w.heap.size w wr)) (fun i _ => m - (intOf i).toNat)
  case atStart => exact ⟨0, by omega, rfl, Below.refl _ _⟩
  case round =>
    obtain ⟨j, hj, rfl, HBE⟩ := hrel
    have hb := unhide HBE
    have hbr := (unhide HB).below hb
    have l1 := hbr.c1
    simp only [zD] at l1
    clear hc1
    by_cases hlt : j < m
    · obtain ⟨g6, rfl⟩ := unhide HPA (by omega)
      have a0 := hbr.cell j hlt 0 (by omega)
      have a1 := hbr.cell j hlt 1 (by omega)
      have a2 := hbr.cell j hlt 2 (by omega)
      have a3 := hbr.cell j hlt 3 (by omega)
      have a4 := hbr.cell j hlt 4 (by omega)
      simp only [Pg.cells, List.getElem?_cons_zero, List.getElem?_cons_succ, Nat.add_zero] at a0 a1 a2 a3 a4
      have hsh := hide (showsD (p j) wr (hbr.ok j hlt) (unhide HS j hlt) hbr.tab)
      have hI : (j : Int) < (m : Int) := by omega
      have hI0 : (0 : Int) ≤ (j : Int) := by omega
      clear hbr hb
      go_wp2_with fail
      refine (unhide hsh).mono ?_
      rintro e w2 ⟨rfl, hb2⟩
      have HB2 := hide hb2
      clear hb2
      go_wp2_with fail
      refine ⟨⟨j + 1, by omega, by go_num, ?_⟩, by simp [intOf]; omega⟩
      exact (unhide HBE).trans ((unhide HB2).mono (unhide HBE).size)
    · have hjm : j = m := by omega
      subst hjm
      have hI : ¬ (j : Int) < (j : Int) := by omega
      clear hbr hb
      go_wp2_with fail
      go_ret
      exact ⟨rfl, unhide HBE⟩
set_option maxRecDepth 100000 in
set_option maxHeartbeats 4000000 in
theorem fillAllD {w : World} {bk m : Nat} {R : Value} {p : Nat → Pg Am} (h : KindAt zD w bk m R p) (hm : m ≤ 96) : Calls Tryz.prog 42 #[.pointer (some ⟨bk, 0, none⟩)] w fun e w' => e = .returned (.tuple #[]) ∧ ∃ p', Went zD w w' bk m R p p' ∧ ∀ i, i < m → (p' i).s ≠ 0 := by
  have HB := hide h
  obtain ⟨pa, pc, rfl, hpa⟩ := book_row h
  have HPA := hide hpa
  have hc1 := h.c1
  simp only [zD] at hc1
  clear h hpa
  go_enter Tryz.func42, Tryz.ntmps42
  go_wp2_with fail
  go_loopw [2] (fun i wr => ∃ (j : Nat), j ≤ m ∧ i = .int .i64 (j : Int) ∧ Hid (∃ pr : Nat → Pg Am, Went zD w wr bk m (.slice pa m pc) p pr ∧ ∀ i, i < j → (pr i).s ≠ 0)) (fun i _ => m - (intOf i).toNat)
  case atStart => exact ⟨0, by omega, rfl, p, Went.refl (unhide HB), fun i hi => by omega⟩
  case round =>
    obtain ⟨j, hj, rfl, HR⟩ := hrel
    obtain ⟨pr, hw, hd⟩ := unhide HR
    have hbr := hw.1
    have l1 := hbr.c1
    simp only [zD] at l1
    have HW := hide hw
    have HD := hide hd
    clear hc1 hw hd HR
    by_cases hlt : j < m
    · obtain ⟨g6, rfl⟩ := unhide HPA (by omega)
      have a4 := hbr.cell j hlt 4 (by omega)
      simp only [Pg.cells, List.getElem?_cons_zero, List.getElem?_cons_succ] at a4
      have hI : (j : Int) < (m : Int) := by omega
      have hI0 : (0 : Int) ≤ (j : Int) := by omega
      by_cases hs : (pr j).s = 0
      · have hfp := hide (fill_page zD_ok fillD hbr j hlt hs)
        have hd0 : decide (0 < (pr j).s) = false := by rw [hs]; rfl
        rw [hd0] at a4
        clear hbr hd0
        go_wp2_with fail
        refine (unhide hfp).mono ?_
        rintro e w2 ⟨rfl, P, hP, hw2⟩
        have HW2 := hide hw2
        clear hw2
        go_wp2_with fail
        refine ⟨⟨j + 1, by omega, by go_num, upd pr j P, (unhide HW).trans (unhide HW2), fun i hi => ?_⟩, by simp [intOf]; omega⟩
        by_cases e : i = j
        · subst e; rw [upd_same, hP]; omega
        · rw [upd_other _ _ _ _ e]; exact unhide HD i (by omega)
      · have hd0 : decide (0 < (pr j).s) = true := by simp; omega
        rw [hd0] at a4
        clear hbr hd0
        go_wp2_with fail
        refine ⟨⟨j + 1, by omega, by go_num, pr, unhide HW, fun i hi => ?_⟩, by simp [intOf]; omega⟩
        by_cases e : i = j
        · subst e; exact hs
        · exact unhide HD i (by omega)
    · have hjm : j = m := by omega
      subst hjm
      have hI : ¬ (j : Int) < (j : Int) := by omega
      clear hbr
      go_wp2_with fail
      go_end0
      exact ⟨rfl, pr, unhide HW, unhide HD⟩
set_option maxRecDepth 100000 in
set_option maxHeartbeats 4000000 in
theorem growAllD {w : World} {bk m : Nat} {R : Value} {p : Nat → Pg Am} (h : KindAt zD w bk m R p) (hm : m ≤ 96) (h0 : ∀ i, i < m → (p i).s ≠ 0) : Calls Tryz.prog 62 #[.pointer (some ⟨bk, 0, none⟩)] w fun e w' => e = .returned (.tuple #[]) ∧ ∃ p', Went zD w w' bk m R p p' ∧ ∀ i, i < m → (p' i).s = 2 := by
  have HB := hide h
  have H0 := hide h0
  obtain ⟨pa, pc, rfl, hpa⟩ := book_row h
  have HPA := hide hpa
  have hc1 := h.c1
  simp only [zD] at hc1
  clear h hpa h0
  go_enter Tryz.func62, Tryz.ntmps62
  go_wp2_with fail
  go_loopw [2] (fun i wr => ∃ (j : Nat), j ≤ m ∧ i = .int .i64 (j : Int) ∧ Hid (∃ pr : Nat → Pg Am, Went zD w wr bk m (.slice pa m pc) p pr ∧ (∀ i, i < j → (pr i).s = 2) ∧ ∀ i, i < m → (pr i).s ≠ 0)) (fun i _ => m - (intOf i).toNat)
  case atStart => exact ⟨0, by omega, rfl, p, Went.refl (unhide HB), fun i hi => by omega, unhide H0⟩
  case round =>
    obtain ⟨j, hj, rfl, HR⟩ := hrel
    obtain ⟨pr, hw, hd, hn0⟩ := unhide HR
    have hbr := hw.1
    have l1 := hbr.c1
    simp only [zD] at l1
    have HW := hide hw
    have HD := hide hd
    have HN := hide hn0
    clear hc1 hw hd hn0 HR
    by_cases hlt : j < m
    · obtain ⟨g6, rfl⟩ := unhide HPA (by omega)
      have a1 := hbr.cell j hlt 1 (by omega)
      simp only [Pg.cells, List.getElem?_cons_zero, List.getElem?_cons_succ] at a1
      have hI : (j : Int) < (m : Int) := by omega
      have hI0 : (0 : Int) ≤ (j : Int) := by omega
      by_cases hs : (pr j).s = 1
      · have hfp := hide (grow_page zD_ok growD hbr j hlt hs)
        rw [((hbr.ok j hlt).s1 hs).2] at a1
        clear hbr
        go_wp2_with fail
        refine (unhide hfp).mono ?_
        rintro e w2 ⟨rfl, P, hP, hw2⟩
        have HW2 := hide hw2
        clear hw2
        go_wp2_with fail
        refine ⟨⟨j + 1, by omega, by go_num, upd pr j P, (unhide HW).trans (unhide HW2), fun i hi => ?_, fun i hi => ?_⟩, by simp [intOf]; omega⟩
        · by_cases e : i = j
          · subst e; rw [upd_same, hP]
          · rw [upd_other _ _ _ _ e]; exact unhide HD i (by omega)
        · by_cases e : i = j
          · subst e; rw [upd_same, hP]; omega
          · rw [upd_other _ _ _ _ e]; exact unhide HN i hi
      · have hs2 : (pr j).s = 2 := by have := unhide HN j hlt; have := (hbr.ok j hlt).s3; omega
        obtain ⟨g7, c7, hv7⟩ := own_open ((hbr.ok j hlt).s2 hs2).2 (by omega)
        rw [hv7] at a1
        obtain ⟨N, hN⟩ : ∃ N, N = (pr j).n + 64 := ⟨_, rfl⟩
        have hN0 : ¬ (N : Int) = 0 := by omega
        have hN1 : ¬ N = 0 := by omega
        rw [← hN] at a1
        clear hbr hN
        go_wp2_with fail
        refine ⟨⟨j + 1, by omega, by go_num, pr, unhide HW, fun i hi => ?_, unhide HN⟩, by simp [intOf]; omega⟩
        by_cases e : i = j
        · subst e; exact hs2
        · exact unhide HD i (by omega)
    · have hjm : j = m := by omega
      subst hjm
      have hI : ¬ (j : Int) < (j : Int) := by omega
      clear hbr
      go_wp2_with fail
      go_end0
      exact ⟨rfl, pr, unhide HW, unhide HD⟩
end Go.Proofs.YtdeibifjiefapaaGreatDoor.Kg
