/- ChartNames (3): its walk. -/
import Derived.Test.YthiiommpeaejaaaGreatDoorRefP
import Derived.Test.YthiiommpeaejaaaGreatDoorPtxO
namespace Go.Proofs.YthiiommpeaejaaaGreatDoor
open Go Go.ChangeShapes Go.WideShapes Go.ChangeAt Go.RowKit
set_option linter.unusedVariables false
attribute [local go_sem] setCell_drewN alloc_drewN
set_option maxHeartbeats 1000000 in
theorem same_none (w : World) : Calls Tryz.prog 15 #[.slice none 0 0, .slice none 0 0] w fun e w' => e = .returned (.bool true) ∧ ∃ m, w' = w.drewN m := by
  go_enter Tryz.func15, Tryz.ntmps15
  go_wp2_with fail
  go_loopw [5] (fun i wr => i = .int .i64 0 ∧ wr = w) (fun i _ => 0)
  case atStart => exact ⟨rfl, rfl⟩
  case round =>
    obtain ⟨rfl, rfl⟩ := hrel
    go_wp2_with fail
    go_ret
    exact ⟨rfl, 0, rfl⟩
/-- a path that was handed out: its row, in memory of its own -/
structure PathAt (s : ByteArray) (b : Nat) (v : Value) (w : World) : Prop where
  own : w.ownsRow b 9 1 v (pathL s.data.toList).length (scells (fOf (pathL s.data.toList)) (pathL s.data.toList).length)
  nil : v = .slice none 0 0 ↔ (pathL s.data.toList).length = 0
theorem PathAt.below {s : ByteArray} {b : Nat} {v : Value} {w w' : World} (h : PathAt s b v w) (hb : Below w.heap.size w w') : PathAt s b v w' := ⟨own_below h.own hb, h.nil⟩
theorem same_path {s : ByteArray} {b c : Nat} {v u : Value} {w : World} (hv : PathAt s b v w) (hu : PathAt s c u w) : Calls Tryz.prog 15 #[v, u] w fun e w' => e = .returned (.bool true) ∧ Below w.heap.size w w' := by
  have hl := path_len s.data.toList
  by_cases h0 : (pathL s.data.toList).length = 0
  · rw [hv.nil.2 h0, hu.nil.2 h0]
    refine (same_none w).mono ?_
    rintro e w' ⟨rfl, m, rfl⟩
    exact ⟨rfl, below_drewN (Below.refl _ _) m⟩
  · obtain ⟨g, cg, rfl⟩ := own_open hv.own (by omega)
    obtain ⟨k, ck, rfl⟩ := own_open hu.own (by omega)
    refine (sameTexts_some (fOf (pathL s.data.toList)) g k _ cg ck (by omega) w (fun j hj => ?_) (fun j hj => ?_)).mono ?_
    · rw [hv.own.cellAt j (by omega)]
      exact scells_get _ _ _ hj
    · rw [hu.own.cellAt j (by omega)]
      exact scells_get _ _ _ hj
    · rintro e w' ⟨rfl, m, rfl⟩
      exact ⟨rfl, below_drewN (Below.refl _ _) m⟩
theorem path_at (s : ByteArray) (hs : s.size < 4611686018427387904) (w : World) : Calls Tryz.prog 14 #[.string s] w fun e w' => ∃ v, e = .returned v ∧ PathAt s w.heap.size v w' ∧ Below w.heap.size w w' :=
  (path_any s hs w).mono fun e w' ⟨v, he, h1, h2, h3⟩ => ⟨v, he, ⟨h1, h2⟩, h3⟩
theorem rpath_at (s : ByteArray) (hs : s.size < 4611686018427387904) (w : World) : Calls Tryz.prog 16 #[.string s] w fun e w' => ∃ v, e = .returned v ∧ PathAt s w.heap.size v w' ∧ Below w.heap.size w w' :=
  (rpath_any s hs w).mono fun e w' ⟨v, he, h1, h2, h3⟩ => ⟨v, he, ⟨h1, h2⟩, h3⟩
def noPg : Nat → Pg := fun _ => ⟨.slice none 0 0, 0, .slice none 0 0, .slice none 0 0, 0, 0, fun _ => ⟨#[]⟩⟩
theorem book_alloc (w : World) (hP : Pw w) : BookAt (w.alloc (.cells #[.int .i64 0, .slice none 0 0, .slice none 0 0, .slice none 0 0, .slice none 0 0, .slice none 0 0, .slice none 0 0, .slice none 0 0, .slice none 0 0, .slice none 0 0, .slice none 0 0, .slice none 0 0, .slice none 0 0, .slice none 0 0, .slice none 0 0, .slice none 0 0, .slice none 0 0, .slice none 0 0, .slice none 0 0, .slice none 0 0, .slice none 0 0] 49)) w.heap.size 0 0 (.slice none 0 0) noPg := by
  have hc : ∀ j, (w.alloc (.cells #[.int .i64 0, .slice none 0 0, .slice none 0 0, .slice none 0 0, .slice none 0 0, .slice none 0 0, .slice none 0 0, .slice none 0 0, .slice none 0 0, .slice none 0 0, .slice none 0 0, .slice none 0 0, .slice none 0 0, .slice none 0 0, .slice none 0 0, .slice none 0 0, .slice none 0 0, .slice none 0 0, .slice none 0 0, .slice none 0 0, .slice none 0 0] 49)).cell? ⟨w.heap.size, j, none⟩ = (#[.int .i64 0, .slice none 0 0, .slice none 0 0, .slice none 0 0, .slice none 0 0, .slice none 0 0, .slice none 0 0, .slice none 0 0, .slice none 0 0, .slice none 0 0, .slice none 0 0, .slice none 0 0, .slice none 0 0, .slice none 0 0, .slice none 0 0, .slice none 0 0, .slice none 0 0, .slice none 0 0, .slice none 0 0, .slice none 0 0, .slice none 0 0] : Array Value)[j]? := fun j => World.cell?_alloc_mark _ _ _ _ j
  have ha : ∀ j, 1 ≤ j → j ≤ 20 → (#[.int .i64 0, .slice none 0 0, .slice none 0 0, .slice none 0 0, .slice none 0 0, .slice none 0 0, .slice none 0 0, .slice none 0 0, .slice none 0 0, .slice none 0 0, .slice none 0 0, .slice none 0 0, .slice none 0 0, .slice none 0 0, .slice none 0 0, .slice none 0 0, .slice none 0 0, .slice none 0 0, .slice none 0 0, .slice none 0 0, .slice none 0 0] : Array Value)[j]? = some (.slice none 0 0) := fun j h1 h2 => match j, h1, h2 with
    | 1, _, _ => rfl
    | 2, _, _ => rfl
    | 3, _, _ => rfl
    | 4, _, _ => rfl
    | 5, _, _ => rfl
    | 6, _, _ => rfl
    | 7, _, _ => rfl
    | 8, _, _ => rfl
    | 9, _, _ => rfl
    | 10, _, _ => rfl
    | 11, _, _ => rfl
    | 12, _, _ => rfl
    | 13, _, _ => rfl
    | 14, _, _ => rfl
    | 15, _, _ => rfl
    | 16, _, _ => rfl
    | 17, _, _ => rfl
    | 18, _, _ => rfl
    | 19, _, _ => rfl
    | 20, _, _ => rfl
    | j + 21, _, h => by omega
  exact book_new noPg (hP.below (bal (Below.refl _ _) _)) (by have := hP.lt; omega) (hc 0) (fun j h1 h2 => (hc j).trans (ha j h1 h2)) (fun i => World.frozen?_alloc_at _ _ _ _ rfl)
/-- what a list more leaves below a bound -/
theorem More.below {w w' : World} {bk m k s B : Nat} {R L : Value} {p : Nat → Pg} (h : More w w' bk m k R p L s) (hb : B ≤ bk) (hB : B ≤ w.heap.size) (hR : ∀ q, R.ownBlock = some q → B ≤ q) (hL : ∀ q, L.ownBlock = some q → B ≤ q) : Below B w w' := by
  obtain ⟨_, _, _, _, _, _, hz, os, tp, ou, hblk⟩ := h
  exact ⟨os, tp, ou, hz, fun q hq => hblk q (by omega) (by omega) (fun e => by have := hR q e; omega) (fun e => by have := hL q e; omega)⟩
theorem PathAt.mine {s : ByteArray} {b bk : Nat} {v : Value} {w : World} (h : PathAt s b v w) (hb : bk < b) (h3 : 3 < b) : Mine w bk 0 (.slice none 0 0) noPg v (pathL s.data.toList).length (fOf (pathL s.data.toList)) :=
  ⟨ownsRow_base_a h.own (Nat.zero_le _), by have := path_len s.data.toList; omega, by
    by_cases h0 : (pathL s.data.toList).length = 0
    · exact .inl (h.nil.2 h0)
    · exact .inr (by omega), fun q hq => ⟨by have := (h.own.lt q hq).1; omega, by simp [Value.ownBlock], fun i hi => by omega⟩, fun e => by have := (h.own.lt 3 e).1; omega⟩
set_option maxRecDepth 100000 in
set_option maxHeartbeats 8000000 in
theorem names_walk (s t : ByteArray) (hs : s.size < 4611686018427387904) (ht : t.size < 4611686018427387904) (w : World) (hP : Pw w) :
    Calls Tryz.prog 3 #[.string s, .string t] w fun e w' => e = .returned (.bool true) ∧ Below w.heap.size w w' := by
  have dG := hide (good_any s hs)
  have dH := hide (rgood_any s hs)
  have dU := hide (under_any s t hs); have dV := hide (runder_any s t hs)
  have dU' := hide (under_any t s ht); have dV' := hide (runder_any t s ht)
  have dP := hide (parent_any s hs); have dQ := hide (rparent_any s hs)
  have dR := hide (root_any s hs); have dS := hide (rroot_any s hs)
  have HP := hide hP
  obtain ⟨y, hy⟩ : ∃ y, y = nameL s.data.toList := ⟨_, rfl⟩
  obtain ⟨u1, hu1⟩ : ∃ y, y = undS s t := ⟨_, rfl⟩
  obtain ⟨u2, hu2⟩ : ∃ y, y = undS t s := ⟨_, rfl⟩
  obtain ⟨p1, hp1⟩ : ∃ y, y = (parS s.data.toList).1 := ⟨_, rfl⟩
  obtain ⟨p2, hp2⟩ : ∃ y, y = (parS s.data.toList).2 := ⟨_, rfl⟩
  obtain ⟨r1, hr1⟩ : ∃ y, y = lastS (pathL s.data.toList) := ⟨_, rfl⟩
  rw [← hy] at dG dH
  rw [← hu1] at dU dV
  rw [← hu2] at dU' dV'
  rw [← hp1, ← hp2] at dP dQ
  rw [← hr1] at dR dS
  clear hy hu1 hu2 hp1 hp2 hr1 hP
  go_enter Tryz.func3, Tryz.ntmps3
  go_wp2_with fail
  refine (unhide dG w).mono ?_
  rintro e w1 ⟨rfl, hb⟩
  have B1 := hide hb
  clear hb
  go_wp2_with fail
  refine (unhide dH w1).mono ?_
  rintro e w2 ⟨rfl, hw⟩
  rw [hw]
  clear hw w2
  go_wp2_with fail
  refine (unhide dU w1).mono ?_
  rintro e w2 ⟨rfl, hb⟩
  have B2 : Hid (Below w.heap.size w w2) := step_below (unhide B1) (Nat.le_refl _) hb
  clear hb
  go_wp2_with fail
  refine (unhide dV w2).mono ?_
  rintro e w3 ⟨rfl, hb⟩
  have B3 : Hid (Below w.heap.size w w3) := step_below (unhide B2) (Nat.le_refl _) hb
  clear hb
  go_wp2_with fail
  refine (unhide dU' w3).mono ?_
  rintro e w4 ⟨rfl, hb⟩
  have B4 : Hid (Below w.heap.size w w4) := step_below (unhide B3) (Nat.le_refl _) hb
  clear hb
  go_wp2_with fail
  refine (unhide dV' w4).mono ?_
  rintro e w5 ⟨rfl, hb⟩
  have B5 : Hid (Below w.heap.size w w5) := step_below (unhide B4) (Nat.le_refl _) hb
  clear hb
  go_wp2_with fail
  refine (unhide dP w5).mono ?_
  rintro e w6 ⟨rfl, hb⟩
  have B6 : Hid (Below w.heap.size w w6) := step_below (unhide B5) (Nat.le_refl _) hb
  clear hb
  go_wp2_with fail
  refine (unhide dQ w6).mono ?_
  rintro e w7 ⟨rfl, hb⟩
  have B7 : Hid (Below w.heap.size w w7) := step_below (unhide B6) (Nat.le_refl _) hb
  clear hb
  go_wp2_with fail
  refine (unhide dR w7).mono ?_
  rintro e w8 ⟨rfl, hb⟩
  have B8 : Hid (Below w.heap.size w w8) := step_below (unhide B7) (Nat.le_refl _) hb
  clear hb
  go_wp2_with fail
  refine (unhide dS w8).mono ?_
  rintro e w9 ⟨rfl, hb⟩
  have B9 : Hid (Below w.heap.size w w9) := step_below (unhide B8) (Nat.le_refl _) hb
  clear hb
  go_wp2_with fail
  have hPw9 : Pw w9 := (unhide HP).below (unhide B9)
  have h39 := hPw9.lt
  have K9 := hide (book_alloc w9 hPw9)
  obtain ⟨wA, hwA⟩ : ∃ wA, wA = w9.alloc (.cells #[.int .i64 0, .slice none 0 0, .slice none 0 0, .slice none 0 0, .slice none 0 0, .slice none 0 0, .slice none 0 0, .slice none 0 0, .slice none 0 0, .slice none 0 0, .slice none 0 0, .slice none 0 0, .slice none 0 0, .slice none 0 0, .slice none 0 0, .slice none 0 0, .slice none 0 0, .slice none 0 0, .slice none 0 0, .slice none 0 0, .slice none 0 0] 49) := ⟨_, rfl⟩
  have bA : Hid (Below w9.heap.size w9 wA) := by rw [hwA]; exact bal (Below.refl _ _) _
  have hzA : w9.heap.size < wA.heap.size := by rw [hwA]; simp
  rw [← hwA] at K9 ⊢
  clear hwA hPw9 dG dH dU dV dU' dV' dP dQ dR dS B1 B2 B3 B4 B5 B6 B7 B8
  refine (path_at s hs wA).mono ?_
  rintro e w10 ⟨v1, rfl, hp, hb⟩
  have P1 := hide hp; have D10 := hide hb
  have z10 := hb.size
  clear hp hb
  go_wp2_with fail
  refine (path_at t ht w10).mono ?_
  rintro e w11 ⟨v2, rfl, hp, hb⟩
  have P2 := hide hp; have D11 := hide hb
  have z11 := hb.size
  clear hp hb
  go_wp2_with fail
  refine (path_at s hs w11).mono ?_
  rintro e w12 ⟨v3, rfl, hp, hb⟩
  have P3 := hide hp; have D12 := hide hb
  have z12 := hb.size
  clear hp hb
  go_wp2_with fail
  refine (rpath_at s hs w12).mono ?_
  rintro e w13 ⟨va, rfl, hp, hb⟩
  have Pa := hide hp; have D13 := hide hb
  have z13 := hb.size
  have P1a := hide ((((unhide P1).below (unhide D11)).below (unhide D12)).below hb)
  clear hp hb
  go_wp2_with fail
  refine (same_path (unhide P1a) (unhide Pa)).mono ?_
  rintro e w14 ⟨rfl, hb⟩
  have D14 := hide hb
  have z14 := hb.size
  clear hb
  go_wp2_with fail
  refine (rpath_at t ht w14).mono ?_
  rintro e w15 ⟨vb, rfl, hp, hb⟩
  have Pb := hide hp; have D15 := hide hb
  have z15 := hb.size
  have P2b := hide (((((unhide P2).below (unhide D12)).below (unhide D13)).below (unhide D14)).below hb)
  clear hp hb
  go_wp2_with fail
  refine (same_path (unhide P2b) (unhide Pb)).mono ?_
  rintro e w16 ⟨rfl, hb⟩
  have D16 := hide hb
  have z16 := hb.size
  have P3c := hide (((((unhide P3).below (unhide D13)).below (unhide D14)).below (unhide D15)).below hb)
  have P1c := hide ((((unhide P1a).below (unhide D14)).below (unhide D15)).below hb)
  have P2c := hide ((unhide P2b).below hb)
  clear hb
  go_wp2_with fail
  refine (same_path (unhide P3c) (unhide P1c)).mono ?_
  rintro e w17 ⟨rfl, hb⟩
  have z17 := hb.size
  have P1d := hide ((unhide P1c).below hb); have P2d := hide ((unhide P2c).below hb); have P3d := hide ((unhide P3c).below hb)
  have K17 := hide (((((((((unhide K9).below (unhide D10)).below (unhide D11)).below (unhide D12)).below (unhide D13)).below (unhide D14)).below (unhide D15)).below (unhide D16)).below hb)
  have B17 : Hid (Below w.heap.size w w17) := step_below (step_below (step_below (step_below (step_below (step_below (step_below (step_below (step_below (unhide B9) (Nat.le_refl _) (unhide bA)) (Nat.le_refl _) (unhide D10)) (Nat.le_refl _) (unhide D11)) (Nat.le_refl _) (unhide D12)) (Nat.le_refl _) (unhide D13)) (Nat.le_refl _) (unhide D14)) (Nat.le_refl _) (unhide D15)) (Nat.le_refl _) (unhide D16)) (Nat.le_refl _) hb
  have l1 := hide (fun q (hq : v1.ownBlock = some q) => (unhide P1).own.lt q hq)
  have l2 := hide (fun q (hq : v2.ownBlock = some q) => (unhide P2).own.lt q hq)
  have l3 := hide (fun q (hq : v3.ownBlock = some q) => (unhide P3).own.lt q hq)
  have M1 := hide ((unhide P1d).mine (bk := w9.heap.size) hzA (by omega))
  have M2 := hide ((unhide P2d).mine (bk := w9.heap.size) (by omega) (by omega))
  have M3 := hide ((unhide P3d).mine (bk := w9.heap.size) (by omega) (by omega))
  clear hb P1 P2 P3 P1a P2b P1c P2c P3c P1d P2d P3d D10 D11 D12 D13 D14 D15 D16 Pa Pb
  go_wp2_with fail
  refine (keep_book (unhide K17) (unhide M1) (by omega) (by omega)).mono ?_
  rintro e w18 ⟨rfl, hm⟩
  have C18 := hide hm
  have b18 := hide (hm.below (B := w9.heap.size) (Nat.le_refl _) (by omega) (fun q hq => by simp [Value.ownBlock] at hq) (fun q hq => by have := (unhide l1 q hq).1; omega))
  obtain ⟨R1, Q1, s1, K18, has1, rr1, z18, _, _, _, _⟩ := hm
  have KK18 := hide K18; have HAS1 := hide has1; have RR1 := hide rr1
  have M2' := hide ((unhide M2).next (n' := 0) (fun q hq e => by have h1 := unhide l2 q hq; have h2 := unhide l1 q e; omega) (unhide C18) R1 Q1 has1 rr1)
  have M3' := hide ((unhide M3).next (n' := 0) (fun q hq e => by have h1 := unhide l3 q hq; have h2 := unhide l1 q e; omega) (unhide C18) R1 Q1 has1 rr1)
  have hR1 : Hid (∀ q, R1.ownBlock = some q → w9.heap.size ≤ q) := fun q hq => by
    rcases rr1 q hq with h | h
    · simp [Value.ownBlock] at h
    · omega
  clear K18 has1 rr1
  go_wp2_with fail
  refine (keep_book (unhide KK18) (unhide M2') (by omega) (by omega)).mono ?_
  rintro e w19 ⟨rfl, hm⟩
  have C19 := hide hm
  have b19 := hide (hm.below (B := w9.heap.size) (Nat.le_refl _) (by omega) (unhide hR1) (fun q hq => by have := (unhide l2 q hq).1; omega))
  obtain ⟨R2, Q2, s2, K19, has2, rr2, z19, _, _, _, _⟩ := hm
  have KK19 := hide K19; have HAS2 := hide has2
  have M3'' := hide ((unhide M3').next (n' := 0) (fun q hq e => by have h1 := unhide l3 q hq; have h2 := unhide l2 q e; omega) (unhide C19) R2 Q2 has2 rr2)
  have hR2 : Hid (∀ q, R2.ownBlock = some q → w9.heap.size ≤ q) := fun q hq => by
    rcases rr2 q hq with h | h
    · exact unhide hR1 q h
    · omega
  clear K19 has2 rr2
  go_wp2_with fail
  refine (write_book (unhide KK19) (unhide M3'') (by omega) (by omega)).mono ?_
  rintro e w20 ⟨rfl, hm⟩
  have b20 := hide (hm.below (B := w9.heap.size) (Nat.le_refl _) (by omega) (unhide hR2) (fun q hq => by have := (unhide l3 q hq).1; omega))
  obtain ⟨R3, Q3, s3, K20, has3, rr3, z20, _, _, _, _⟩ := hm
  have hR3 : Hid (∀ q, R3.ownBlock = some q → w9.heap.size ≤ q) := fun q hq => by
    rcases rr3 q hq with h | h
    · exact unhide hR2 q h
    · omega
  obtain ⟨p3, hp3⟩ : ∃ p3, p3 = upd (upd (upd noPg 0 Q1) 1 Q2) 2 Q3 := ⟨_, rfl⟩
  have hS3 : Hid (∀ i, i < 3 → (p3 i).s ≠ 1) := fun i hi => by
    rw [hp3]
    have : i = 0 ∨ i = 1 ∨ i = 2 := by omega
    rcases this with rfl | rfl | rfl
    · rw [upd_other _ _ _ _ (by omega), upd_other _ _ _ _ (by omega), upd_same, s1]; omega
    · rw [upd_other _ _ _ _ (by omega), upd_same, s2]; omega
    · rw [upd_same, s3]; omega
  have hH3 : Hid (∀ i, i < 3 → ∀ q, (p3 i).has q → w9.heap.size ≤ q) := fun i hi q hq => by
    rw [hp3] at hq
    have : i = 0 ∨ i = 1 ∨ i = 2 := by omega
    rcases this with rfl | rfl | rfl
    · rw [upd_other _ _ _ _ (by omega), upd_other _ _ _ _ (by omega), upd_same] at hq
      rcases unhide HAS1 q hq with h | h
      · have := unhide l1 q h; omega
      · omega
    · rw [upd_other _ _ _ _ (by omega), upd_same] at hq
      rcases unhide HAS2 q hq with h | h
      · have := unhide l2 q h; omega
      · omega
    · rw [upd_same] at hq
      rcases has3 q hq with h | h
      · have := unhide l3 q h; omega
      · omega
  have KB : Hid (BookAt w20 w9.heap.size 3 3 R3 p3) := by rw [hp3]; exact K20
  have hz9 : w.heap.size ≤ w9.heap.size := (unhide B9).size
  have B20 : Hid (Below w.heap.size w w20) := (((unhide B17).trans ((unhide b18).mono hz9)).trans ((unhide b19).mono hz9)).trans ((unhide b20).mono hz9)
  clear K20 has3 rr3 hp3 s1 s2 s3 b18 b19 b20 C18 C19
  go_wp2_with fail
  refine (settle_all (unhide KB) (by omega) (unhide hS3)).mono ?_
  rintro e w21 ⟨rfl, hrest⟩
  have B21 : Hid (Below w.heap.size w w21) := (unhide B20).trans ⟨hrest.os, hrest.tape, hrest.output, hrest.size, fun q hq => hrest.block q (by have := (unhide B20).size; omega) (fun e => by have := unhide hR3 q e; omega) (fun i hi hh => by have := unhide hH3 i hi q hh; omega)⟩
  clear hrest
  go_wp2_with fail
  refine (path_at s hs w21).mono ?_
  rintro e w22 ⟨v4, rfl, hp, hb⟩
  have P4 := hide hp; have D22 := hide hb
  clear hp hb
  go_wp2_with fail
  refine (rpath_at s hs w22).mono ?_
  rintro e w23 ⟨v5, rfl, hp, hb⟩
  have P5 := hide hp; have D23 := hide hb
  clear hp hb
  go_wp2_with fail
  refine (same_path ((unhide P4).below (unhide D23)) (unhide P5)).mono ?_
  rintro e w24 ⟨rfl, hb⟩
  have B24 : Hid (Below w.heap.size w w24) := step_below (step_below (step_below (unhide B21) (Nat.le_refl _) (unhide D22)) (Nat.le_refl _) (unhide D23)) (Nat.le_refl _) hb
  clear hb
  go_wp2_with fail
  go_ret
  exact ⟨rfl, unhide B24⟩
end Go.Proofs.YthiiommpeaejaaaGreatDoor
