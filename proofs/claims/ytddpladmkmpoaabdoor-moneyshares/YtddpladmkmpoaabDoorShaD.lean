import Derived.Test.YtddpladmkmpoaabDoorShaC
namespace Go.Proofs.YtddpladmkmpoaabDoor
open Go.ChangeShapes Go.WideShapes Go.ChangeAt Go.RowKit
set_option linter.unusedVariables false
/-- a number with a sign -/
def sgn (neg : Bool) (x : Nat) : Int := if neg then -(x : Int) else (x : Int)
/-- the parts in their cells -/
structure Got (T S : Nat) (zs : Nat → Int) (n : Nat) (neg : Bool) (pb : Nat) (g : Nat → Int) (w : World) : Prop where
  lt : pb < w.heap.size
  cells : ∀ x, x < n → w.cell? ⟨pb, x, none⟩ = some (.int .i64 (g x))
  val : ∀ i, i < n → g i = sgn neg (part T S zs n i)
  sum : sumZ g n = sgn neg T
  le : ∀ i, i < n → part T S zs n i ≤ T
theorem Got.below {T S n pb : Nat} {zs g : Nat → Int} {neg : Bool} {w w' : World} (h : Got T S zs n neg pb g w) (hb : Below w.heap.size w w') : Got T S zs n neg pb g w' :=
  ⟨Nat.lt_of_lt_of_le h.lt hb.size, fun x hx => (hb.cell (show (⟨pb, x, none⟩ : Addr).block < w.heap.size from h.lt)).trans (h.cells x hx), h.val, h.sum, h.le⟩
def GotOut (T S : Nat) (zs : Nat → Int) (n : Nat) (neg : Bool) (w : World) (e : Ending) (w' : World) : Prop :=
  ∃ pb g, e = .returned (.tuple #[.slice (some ⟨pb, 0, none⟩) n n, .int .i64 0]) ∧ w.heap.size ≤ pb ∧ Got T S zs n neg pb g w' ∧ Below w.heap.size w w'
/-- a list of weights by which one can share -/
structure Wts (S : Nat) (zs : Nat → Int) (b off n : Nat) (w : World) : Prop where
  S0 : 0 < S
  S63 : S ≤ 9223372036854775807
  sum : sumN zs n = S
  n0 : 0 < n
  n1 : n ≤ 1000
  lt : b < w.heap.size
  pos : ∀ k, k < n → 0 ≤ zs k ∧ zs k ≤ 9223372036854775807
  cells : ∀ k, k < n → w.cell? ⟨b, off + k, none⟩ = some (.int .i64 (zs k))
theorem Wts.below {S b off n : Nat} {zs : Nat → Int} {w w' : World} (h : Wts S zs b off n w) (hb : Below w.heap.size w w') : Wts S zs b off n w' :=
  { h with lt := Nat.lt_of_lt_of_le h.lt hb.size, cells := fun k hk => (hb.cell (show (⟨b, off + k, none⟩ : Addr).block < w.heap.size from h.lt)).trans (h.cells k hk) }
theorem split_got {S b off n : Nat} {zs : Nat → Int} {w : World} (h : Wts S zs b off n w) (cap T : Nat) (total : Int) (hT : total.natAbs = T) (hT63 : T ≤ 9223372036854775807) :
    Calls Tryd.prog 12 #[.int .i64 total, .slice (some ⟨b, off, none⟩) n cap] w fun e w' => GotOut T S zs n (decide (total < 0)) w e w' := by
  refine (split_ok T S total zs b off n cap _ rfl hT hT63 h.sum h.S0 h.S63 h.n1 h.n0 (hide h.pos) w h.lt (hide h.cells)).mono ?_
  rintro e w' ⟨pb, c, g, rfl, hpb, hO, hL, hB⟩
  have hv : ∀ i, i < n → g i = sgn (decide (total < 0)) (part T S zs n i) := fun i hi => hL.at hO hi
  refine ⟨pb, g, rfl, hpb, ⟨?_, fun x hx => (hL.cells x hx).1, hv, ?_, fun i hi => part_le hO h.sum h.S0 hi⟩, hB⟩
  · exact World.block_lt_of_cell? _ ⟨pb, 0, none⟩ (hL.cells 0 h.n0).1
  · rw [sumZ_part _ g hv n (Nat.le_refl _), sumP_T hO h.sum h.S0]
    rfl
theorem sum_wts {S b off n : Nat} {zs : Nat → Int} {w : World} (h : Wts S zs b off n w) (cap : Nat) : Calls Tryd.prog 8 #[.slice (some ⟨b, off, none⟩) n cap] w fun e w' => e = .returned (.tuple #[.int .i64 S, .int .i64 0]) ∧ w' = w := by
  have hs : sumSpec zs n = ((S : Int), 0) := by
    have e1 := sumN_is n (fun k hk => (h.pos k hk).1)
    rw [h.sum] at e1
    have := h.S63
    have := h.S0
    rw [sumSpec_fits (anyMin_of (fun i hi => by have := h.pos i hi; omega)) (by omega) (by omega), ← e1]
  have hm := msum_any zs b off n cap (by have := h.n1; omega) (fun k hk => ⟨by have := h.pos k hk; omega, (h.pos k hk).2⟩) w h.cells
  rw [hs] at hm
  exact hm
theorem sgn_bd (neg : Bool) {x T : Nat} (h : x ≤ T) (hT : T ≤ 9223372036854775807) : -9223372036854775807 ≤ sgn neg x ∧ sgn neg x ≤ 9223372036854775807 := by
  unfold sgn
  cases neg <;> simp <;> omega
theorem sum_got {T S n pb : Nat} {zs g : Nat → Int} {neg : Bool} {w : World} (h : Got T S zs n neg pb g w) (hn : n ≤ 1000) (hT : T ≤ 9223372036854775807) (cap : Nat) : Calls Tryd.prog 8 #[.slice (some ⟨pb, 0, none⟩) n cap] w fun e w' => e = .returned (.tuple #[.int .i64 (sgn neg T), .int .i64 0]) ∧ w' = w := by
  have hb : ∀ k, k < n → -9223372036854775807 ≤ g k ∧ g k ≤ 9223372036854775807 := fun k hk => by rw [h.val k hk]; exact sgn_bd neg (h.le k hk) hT
  have hs : sumSpec g n = (sgn neg T, 0) := by
    have := sgn_bd neg (Nat.le_refl T) hT
    rw [sumSpec_fits (anyMin_of (fun i hi => by have := hb i hi; omega)) (by rw [h.sum]; omega) (by rw [h.sum]; omega), h.sum]
  have hm := msum_any g pb 0 n cap (by omega) (fun k hk => ⟨by have := hb k hk; omega, (hb k hk).2⟩) w (fun k hk => by rw [Nat.zero_add]; exact h.cells k hk)
  rw [hs] at hm
  exact hm
theorem sgn_total (total : Int) (T : Nat) (h : total.natAbs = T) : sgn (decide (total < 0)) T = total := by
  unfold sgn
  by_cases h' : total < 0 <;> simp [h'] <;> omega
theorem mul_two {S ks : Nat} (hS : 0 < S) (hS63 : S ≤ 9223372036854775807) (hk : 0 < ks) (hk63 : ks ≤ 9223372036854775807) : mulSpec (S : Int) (ks : Int) = (0, 11) ∨ mulSpec (S : Int) (ks : Int) = (((S * ks : Nat) : Int), 0) ∧ S * ks ≤ 9223372036854775807 := by
  have m1 : isMin (S : Int) = false := isMin_no (by omega)
  have m2 : isMin (ks : Int) = false := isMin_no (by omega)
  by_cases h : S * ks < 9223372036854775808
  · right
    refine ⟨?_, by omega⟩
    rw [mulSpec_fits (S : Int) (ks : Int) false m1 m2 (by simpa using h) (by rw [decide_eq_false (by omega), decide_eq_false (by omega)]; rfl)]
    rfl
  · left
    exact mulSpec_over _ _ m1 m2 (by simpa using h)
/-- the weights times k, as a list -/
theorem wts_scale {S b off n : Nat} {zs : Nat → Int} {w w' : World} (h : Wts S zs b off n w) {ks : Nat} (hk : 0 < ks) (hM : S * ks ≤ 9223372036854775807) {v : Value} {base : Nat} (ho : w'.ownsRow base 2 1 v n (cellsOf (fun x => zs x * (ks : Int)) n)) : ∃ b' off' c, v = .slice (some ⟨b', off', none⟩) n c ∧ Wts (S * ks) (fun x => zs x * (ks : Int)) b' off' n w' := by
  have h0 : ∀ k, k < n → 0 ≤ zs k := fun k hk => (h.pos k hk).1
  have hp : ∀ k, k < n → 0 ≤ zs k * (ks : Int) ∧ zs k * (ks : Int) ≤ 9223372036854775807 := by
    intro k hk'
    have e1 : ((zs k).toNat : Int) = zs k := by have := h0 k hk'; omega
    have e2 : (zs k).toNat ≤ S := by rw [← h.sum]; exact one_le_sum zs hk'
    have e3 : (zs k).toNat * ks ≤ S * ks := Nat.mul_le_mul_right _ e2
    rw [← e1, ← Int.natCast_mul]
    omega
  obtain ⟨a0, c, hv, hin⟩ := lin_own ho (by have := h.n1; omega) (fun k hk => by have := hp k hk; omega)
  rcases hin.at' with ⟨h', _⟩ | ⟨b', off', ha, hb', _, hc⟩
  · have := h.n0; omega
  · refine ⟨b', off', c, by rw [hv, ha], ⟨Nat.mul_pos h.S0 hk, hM, ?_, h.n0, h.n1, hb', hp, hc⟩⟩
    rw [scale_sum ks n h0, h.sum]
theorem sgn_neg (total : Int) (T : Nat) {x : Nat} (h : total.natAbs = T) (hx : x ≤ T) : sgn (decide (-total < 0)) x = - sgn (decide (total < 0)) x := by
  unfold sgn
  by_cases h1 : total < 0
  · rw [decide_eq_true h1, decide_eq_false (show ¬ (-total < 0) by omega)]
    simp
  · by_cases h2 : -total < 0
    · rw [decide_eq_false h1, decide_eq_true h2]
      simp
    · rw [decide_eq_false h1, decide_eq_false h2]
      simp
      omega
set_option maxRecDepth 100000 in
set_option maxHeartbeats 4000000 in
theorem shares_ok (total k : Int) (S b off n cap T : Nat) (zs : Nat → Int) (w : World) (hP : Pow w) (hW : Wts S zs b off n w) (hT : total.natAbs = T) (hT63 : T ≤ 9223372036854775807) (hk : -9223372036854775808 ≤ k) (hk' : k ≤ 9223372036854775807) :
    Calls Tryd.prog 4 #[.int .i64 total, .slice (some ⟨b, off, none⟩) n cap, .int .i64 k] w fun e w' => e = .returned (.bool true) ∧ Below w.heap.size w w' := by
  have A0 := hide (first_ok w hP)
  have HW := hide hW
  have A1 := hide (fun W (hB : Below w.heap.size w W) => split_got (hW.below hB) cap T total hT hT63)
  have A2 := hide (fun W (hB : Below w.heap.size w W) => sum_wts (hW.below hB) cap)
  have hn0 := hW.n0
  have hn1 := hW.n1
  have tt : (total != total) = false := by simp
  have nn' : ((n : Int) != (n : Int)) = false := by simp
  have HT := hide hT
  clear hP hW
  go_enter Tryd.func4, Tryd.ntmps4
  go_wp2_with fail
  refine (unhide A0).mono ?_
  rintro e w1 ⟨rfl, hb1⟩
  have B1 := hide hb1
  clear hb1
  go_wp2_with fail
  refine (unhide A1 _ (unhide B1)).mono ?_
  rintro e w2 ⟨pb, g, rfl, hpb, hG, hb2⟩
  have G2 := hide hG
  have B2 := hide ((unhide B1).trans (hb2.mono (unhide B1).size))
  have A3 := hide (sum_got hG hn1 hT63 n)
  rw [sgn_total total T hT] at A3
  clear hG hb2 hT
  go_wp2_with fail
  refine (unhide A2 _ (unhide B2)).mono ?_
  rintro e w0 ⟨rfl, hw⟩
  rw [hw]
  clear hw w0
  go_wp2_with fail
  refine (unhide A3).mono ?_
  rintro e w0 ⟨rfl, hw⟩
  rw [hw]
  clear hw w0
  go_wp2_with fail
  go_loopw [14] (fun vi wr => ∃ i : Nat, i ≤ n ∧ vi = .int .i64 i ∧ Below w2.heap.size w2 wr) (fun i _ => n - (intOf i).toNat)
  case atStart => exact ⟨0, by omega, rfl, Below.refl _ _⟩
  case round =>
    rename_i wr
    obtain ⟨i, hin, rfl, hbr⟩ := hrel
    have BR := hide hbr
    have BW := hide ((unhide B2).trans (hbr.mono (unhide B2).size))
    clear hbr
    by_cases hlt : i < n
    · have hI : (i : Int) < (n : Int) := by omega
      obtain ⟨z, hz⟩ : ∃ z : Nat, zs i = (z : Int) := ⟨(zs i).toNat, by have := (unhide HW).pos i hlt; omega⟩
      have ez : (zs i).toNat = z := by omega
      have hzS : z ≤ S := by rw [← ez, ← (unhide HW).sum]; exact one_le_sum zs hlt
      obtain ⟨v, hv⟩ : ∃ v, g i = v := ⟨_, rfl⟩
      obtain ⟨lo, hlo⟩ : ∃ lo, sgn (decide (total < 0)) (T * z / S) = lo := ⟨_, rfl⟩
      obtain ⟨u, hu⟩ : ∃ u, T * z / S + (if 0 < T * z % S then 1 else 0) = u := ⟨_, rfl⟩
      obtain ⟨hi, hhi⟩ : ∃ hi, sgn (decide (total < 0)) u = hi := ⟨_, rfl⟩
      have R1 := hide (fun W => mratio_any total (z : Int) (S : Int) 0 W (by have := unhide HT; omega) (by omega) (by have := unhide HT; omega) (by have := (unhide HW).S63; omega) (by have := (unhide HW).S63; omega) (by decide))
      have R2 := hide (fun W => mratio_any total (z : Int) (S : Int) 1 W (by have := unhide HT; omega) (by omega) (by have := unhide HT; omega) (by have := (unhide HW).S63; omega) (by have := (unhide HW).S63; omega) (by decide))
      have q1 : ratioSpec total (z : Int) (S : Int) 0 = (lo, 0) := (ratio_down total (unhide HT) hT63 hzS (unhide HW).S0 (unhide HW).S63).trans (by rw [← hlo]; rfl)
      have q2 : ratioSpec total (z : Int) (S : Int) 1 = (hi, 0) := (ratio_up total (unhide HT) hT63 hzS (unhide HW).S0 (unhide HW).S63 u hu.symm).trans (by rw [← hhi]; rfl)
      rw [q1] at R1
      rw [q2] at R2
      have hvv : v = lo ∨ v = hi := by
        rw [← hv, (unhide G2).val i hlt]
        rcases part_two (T := T) (unhide HW).sum (unhide HW).S0 i with h | ⟨h, h'⟩
        · left; rw [h, ← hlo]; unfold qf; rw [ez]
        · right
          rw [h, ← hhi, ← hu]
          unfold qf rf at *
          rw [ez] at h' ⊢
          rw [if_pos h']
      have hz0 : z = 0 → v = 0 := by
        intro h
        rw [← hv, (unhide G2).val i hlt, part_zero (unhide HW).sum (unhide HW).S0 (by rw [hz, h]; rfl)]
        unfold sgn
        cases decide (total < 0) <;> rfl
      have cl : ∀ W, Below wr.heap.size wr W → W.cell? ⟨b, off + i, none⟩ = some (.int .i64 (z : Int)) := fun W hB => by
        have h := ((unhide HW).below ((unhide BW).trans (hB.mono (unhide BW).size))).cells i hlt
        rw [hz] at h
        exact h
      have cp : ∀ W, Below wr.heap.size wr W → W.cell? ⟨pb, i, none⟩ = some (.int .i64 v) := fun W hB => by
        have h := ((unhide G2).below ((unhide BR).trans (hB.mono (unhide BR).size))).cells i hlt
        rw [hv] at h
        exact h
      have c0 := cl wr (Below.refl _ _)
      have CL := hide cl
      have CP := hide cp
      have HVV := hide hvv
      have HZ0 := hide hz0
      clear cl cp hvv hz0 q1 q2 hlo hu hhi hv
      go_wp2_with fail
      refine (unhide R1 _).mono ?_
      rintro e w4 ⟨rfl, hb4⟩
      have B4 := hide hb4
      have c4 := unhide CL w4 hb4
      clear hb4
      go_wp2_with fail
      refine (unhide R2 _).mono ?_
      rintro e w5 ⟨rfl, hb5⟩
      have B5 := hide ((unhide B4).trans (hb5.mono (unhide B4).size))
      have c5 := unhide CL w5 (unhide B5)
      have d5 := unhide CP w5 (unhide B5)
      clear hb5 c0 c4
      have hcs : ∃ x1 x3 : Bool, (v != lo) = x1 ∧ (x1 = true → (v != hi) = false) ∧ ((z : Int) == 0) = x3 ∧ (x3 = true → (v != 0) = false) := by
        refine ⟨_, _, rfl, fun h => ?_, rfl, fun h => ?_⟩
        · rcases unhide HVV with h' | h'
          · rw [h'] at h; simp at h
          · rw [h']; simp
        · have hz' : z = 0 := by simpa using h
          rw [unhide HZ0 hz']; rfl
      obtain ⟨x1, x3, y1, y2, y3, y4⟩ := hcs
      have XV : Hid (∀ j, j < i → 0 ≤ total → ∃ (zj vj : Int), w5.cell? ⟨b, off + j, none⟩ = some (.int .i64 zj) ∧ w5.cell? ⟨pb, j, none⟩ = some (.int .i64 vj) ∧ (zj < (z : Int) ∧ vj ≤ v ∨ (z : Int) ≤ zj ∧ v ≤ vj)) := by
        intro j hj ht
        have hjn : j < n := by omega
        have bw5 := (unhide BW).trans ((unhide B5).mono (unhide BW).size)
        have br5 := (unhide BR).trans ((unhide B5).mono (unhide BR).size)
        have hpos := (unhide HW).pos j hjn
        have e1 := ((unhide HW).below bw5).cells j hjn
        have e2 := ((unhide G2).below br5).cells j hjn
        have e3 : w5.cell? ⟨pb, i, none⟩ = some (.int .i64 (g i)) := ((unhide G2).below br5).cells i hlt
        rw [d5] at e3
        have ev : v = g i := by injection e3 with e3; injection e3
        refine ⟨zs j, g j, e1, e2, ?_⟩
        · have hd : decide (total < 0) = false := decide_eq_false (by omega)
          have g1 := (unhide G2).val j hjn
          have g2 := (unhide G2).val i hlt
          rw [hd] at g1 g2
          have g1' : g j = (part T S zs n j : Int) := g1
          have g2' : g i = (part T S zs n i : Int) := g2
          rw [ev, g1', g2', ← hz]
          rcases Int.lt_trichotomy (zs j) (zs i) with h | h | h
          · have := part_more (T := T) (n := n) (unhide HW).S0 h hpos.1
            exact .inl ⟨h, by omega⟩
          · have := part_same (T := T) (S := S) (n := n) hj h.symm
            exact .inr ⟨by omega, by omega⟩
          · have := part_more (T := T) (n := n) (unhide HW).S0 h ((unhide HW).pos i hlt).1
            exact .inr ⟨by omega, by omega⟩
      clear HVV HZ0 R1 R2 CL CP B4 hz ez
      cases x1 <;> cases x3
      all_goals
        first | (have y2' := y2 rfl) | skip
        first | (have y4' := y4 rfl) | skip
        clear y2 y4
        go_wp2
        go_loopw [19] (fun vj wq => ∃ (j m : Nat), j ≤ i ∧ vj = .int .i64 j ∧ wq = w5.drewN m) (fun j _ => i - (intOf j).toNat)
        case atStart => exact ⟨0, 0, by omega, rfl, rfl⟩
        case round =>
          obtain ⟨j, m, hji, rfl, rfl⟩ := hrel
          by_cases hg : j < i ∧ 0 ≤ total
          · have hJ : (j : Int) < (i : Int) := by omega
            have hJn : (j : Int) < (n : Int) := by omega
            have hJ0 : (0 : Int) ≤ (j : Int) := by omega
            have ht := hg.2
            obtain ⟨zj, vj, e1, e2, hh⟩ := unhide XV j hg.1 hg.2
            clear hg
            rcases hh with ⟨h1, h2⟩ | ⟨h1, h2⟩
            · have h3 : ¬ v < vj := by omega
              have h4 : ¬ (z : Int) ≤ zj := by omega
              have h5 : decide ((z : Int) ≤ zj) = false := decide_eq_false h4
              have h6 : decide (v < vj) = false := decide_eq_false h3
              go_wp2_with fail
              go_quiet (fail)
              go_wp2
              go_roundw
              case rel => exact ⟨j + 1, m + nq, by omega, by go_num, rfl⟩
              case measure => simp [intOf]; omega
            · have h3 : ¬ vj < v := by omega
              have h4 : ¬ zj < (z : Int) := by omega
              have h5 : decide ((z : Int) > zj) = false := decide_eq_false (by omega)
              have h6 : decide (v > vj) = false := decide_eq_false (by omega)
              go_wp2_with fail
              go_quiet (fail)
              go_wp2
              go_roundw
              case rel => exact ⟨j + 1, m + nq, by omega, by go_num, rfl⟩
              case measure => simp [intOf]; omega
          · have hg2 : ¬ (j : Int) < (i : Int) ∨ (j : Int) < (i : Int) ∧ ¬ 0 ≤ total := by omega
            have B6 := hide (below_drewN ((unhide BR).trans ((unhide B5).mono (unhide BR).size)) m)
            clear hg XV
            rcases hg2 with h1 | ⟨h1, h2⟩
            all_goals
              go_wp2
              exact ⟨⟨i + 1, by omega, by go_num, unhide B6⟩, by simp [intOf]; omega⟩
    · have hI : ¬ (i : Int) < (n : Int) := by omega
      have ht1 : -9223372036854775807 ≤ total := by have := unhide HT; omega
      have ht2 : total ≤ 9223372036854775807 := by have := unhide HT; omega
      have A4 := hide (split_got ((unhide HW).below (unhide BW)) cap T (-total) (by have := unhide HT; omega) hT63)
      go_wp2_with fail
      refine (unhide A4).mono ?_
      rintro e w3 ⟨qb, g2, rfl, hqb, hG3, hb3⟩
      have B3 := hide ((unhide BR).trans (hb3.mono (unhide BR).size))
      have BW3 := hide ((unhide BW).trans (hb3.mono (unhide BW).size))
      have G3 := hide hG3
      have P3 := hide ((unhide G2).below (unhide B3))
      have XN : Hid (∀ j, j < n → ∃ v : Int, w3.cell? ⟨pb, j, none⟩ = some (.int .i64 v) ∧ w3.cell? ⟨qb, j, none⟩ = some (.int .i64 (-v)) ∧ -9223372036854775807 ≤ v ∧ v ≤ 9223372036854775807) := by
        intro j hj
        have bd := sgn_bd (decide (total < 0)) ((unhide P3).le j hj) hT63
        rw [← (unhide P3).val j hj] at bd
        refine ⟨g j, (unhide P3).cells j hj, ?_, bd.1, bd.2⟩
        rw [(unhide G3).cells j hj]
        have e1 := (unhide P3).val j hj
        have e2 := (unhide G3).val j hj
        have e3 := (unhide P3).le j hj
        have e4 := unhide HT
        have : g2 j = - g j := by
          rw [e1, e2]
          exact sgn_neg total T e4 e3
        rw [this]
      clear hb3 hG3 hqb A4 B3
      go_wp2_with fail
      go_loopw [21] (fun vi wq => ∃ (j m : Nat), j ≤ n ∧ vi = .int .i64 j ∧ wq = w3.drewN m) (fun j _ => n - (intOf j).toNat)
      case atStart => exact ⟨0, 0, by omega, rfl, rfl⟩
      case round =>
        obtain ⟨j, m, hjn, rfl, rfl⟩ := hrel
        by_cases hjl : j < n
        · have hJ : (j : Int) < (n : Int) := by omega
          have hJ0 : (0 : Int) ≤ (j : Int) := by omega
          obtain ⟨v, e1, e2, l1, l2⟩ := unhide XN j hjl
          have e3 : ((-v) != (-v)) = false := by simp
          go_wp2_with fail
          first | go_quiet (fail) | skip
          go_wp2
          go_roundw
          case rel => exact ⟨j + 1, m + nq, by omega, by go_num, rfl⟩
          case measure => simp [intOf]; omega
        · have hJ : ¬ (j : Int) < (n : Int) := by omega
          have A5 := hide (fun W => mmul_any (S : Int) k W (by omega) hk (by have := (unhide HW).S63; omega) hk')
          clear XN
          by_cases hk1 : k < 1
          · obtain ⟨bg, er, hms⟩ : ∃ bg er, mulSpec (S : Int) k = (bg, er) := ⟨_, _, rfl⟩
            rw [hms] at A5
            go_wp2_with fail
            refine (unhide A5 _).mono ?_
            rintro e w0 ⟨rfl, hw⟩
            rw [hw]
            clear hw w0
            go_wp2
            go_ret
            exact ⟨rfl, below_drewN (unhide BW3) m⟩
          · obtain ⟨ks, rfl⟩ : ∃ ks : Nat, k = (ks : Int) := ⟨k.toNat, by omega⟩
            have hks : 0 < ks := by omega
            rcases mul_two (unhide HW).S0 (unhide HW).S63 hks (by omega) with hms | ⟨hms, hM⟩
            · rw [hms] at A5
              go_wp2_with fail
              refine (unhide A5 _).mono ?_
              rintro e w0 ⟨rfl, hw⟩
              rw [hw]
              clear hw w0
              go_wp2
              go_ret
              exact ⟨rfl, below_drewN (unhide BW3) m⟩
            · rw [hms] at A5
              have hM1 : ¬ (((S * ks : Nat) : Int)) < 1 := by
                have := Nat.mul_pos (unhide HW).S0 hks
                omega
              obtain ⟨M, hMM⟩ : ∃ M : Int, ((S * ks : Nat) : Int) = M := ⟨_, rfl⟩
              obtain ⟨K, hK⟩ : ∃ K : Int, (ks : Int) = K := ⟨_, rfl⟩
              rw [hMM] at A5 hM1
              rw [hK] at A5 hk1 hk hk'
              obtain ⟨w4, hw4⟩ : ∃ w4, w3.drewN m = w4 := ⟨_, rfl⟩
              have B4 := hide (below_drewN (unhide BW3) m)
              have P4 := hide ((unhide P3).below (below_drewN (Below.refl _ _) m))
              rw [hw4] at B4 P4 ⊢
              have W4 := hide ((unhide HW).below (unhide B4))
              have HK := hide hK
              obtain ⟨i0, hi, hz0, hz1, hz2⟩ := info_parts info2r
              have HI := hide hi; have HZ0 := hide hz0; have HZ1 := hide hz1; have HZ2 := hide hz2
              rw [hK]
              clear hi hz0 hz1 hz2 hK hw4 hms hMM P3 BW3 BW BR G3 hlt hin hI
              go_wp2_with fail
              refine (unhide A5 _).mono ?_
              rintro e w0 ⟨rfl, hw⟩
              rw [hw]
              clear hw w0
              go_wp2
              go_loopw [23, 24] (fun v i wq => ∃ (j : Nat), j ≤ n ∧ i = .int .i64 j ∧ wq.ownsRow w4.heap.size 2 1 v j (cellsOf (fun x => zs x * (ks : Int)) j) ∧ Below w4.heap.size w4 wq) (fun _ i _ => n - (intOf i).toNat)
              case atStart => exact ⟨0, by omega, rfl, World.ownsRow_nil _ _ _ _, Below.refl _ _⟩
              case round =>
                obtain ⟨j3, hj3, rfl, hown, hbel⟩ := hrel
                have OWN := hide hown
                have BEL := hide hbel
                have hsz := hbel.size
                clear hown hbel
                by_cases hlt3 : j3 < n
                · have hI3 : (j3 : Int) < (n : Int) := by omega
                  have hI0 : (0 : Int) ≤ (j3 : Int) := by omega
                  have hck : wr.cell? ⟨b, off + j3, none⟩ = some (.int .i64 (zs j3)) := ((unhide W4).below (unhide BEL)).cells j3 hlt3
                  obtain ⟨z, hz⟩ : ∃ z, zs j3 = z := ⟨_, rfl⟩
                  obtain ⟨p, hp⟩ : ∃ p, z * K = p := ⟨_, rfl⟩
                  have hpb2 : 0 ≤ p ∧ p ≤ 9223372036854775807 := by
                    have e1 : ((zs j3).toNat : Int) = zs j3 := by have := ((unhide HW).pos j3 hlt3).1; omega
                    have e2 : (zs j3).toNat ≤ S := by rw [← (unhide HW).sum]; exact one_le_sum zs hlt3
                    have e3 : (zs j3).toNat * ks ≤ S * ks := Nat.mul_le_mul_right _ e2
                    rw [← hp, ← unhide HK, ← hz, ← e1, ← Int.natCast_mul]
                    omega
                  have hp1 := hpb2.1
                  have hp2 := hpb2.2
                  rw [hz] at hck
                  have HZ := hide (show zs j3 * (ks : Int) = p by rw [hz, unhide HK, hp])
                  clear hz hpb2
                  go_wp2_with (at_builtin; refine wpList_append_own _ rfl _ _ 22 rfl w4.heap.size 2 i0 (.int .i64 0) 1 8 Tryd.underlying22 (unhide HI) (unhide HZ0) (unhide HZ1) (unhide HZ2) rfl (by decide) _ _ _ rfl ((unhide OWN).alloc _) ⟨wr.heap.size, 0, none⟩ 1 1 [.int .i64 p] rfl rfl (cell_one_new _ _ _) (by intro u hu; simp at hu; subst hu; rfl) (by unfold maxLen; omega) (by omega) (by simp; omega) ?_; intro v1 w6 hown1 hgrow1 _)
                  have BB := hide (Below.grown (bal (unhide BEL) _) hgrow1 (by simp; omega) (fun j hj => ((unhide OWN).lt j hj).1))
                  have OO := hide hown1
                  clear hown1 hgrow1
                  go_wp2
                  go_roundw
                  case rel =>
                    refine ⟨j3 + 1, by omega, by go_num, ?_, unhide BB⟩
                    have h := unhide OO
                    rw [cellsOf_succ, unhide HZ]
                    exact h
                  case measure => simp [intOf]; omega
                · have hI3 : ¬ (j3 : Int) < (n : Int) := by omega
                  have hjn3 : j3 = n := by omega
                  have own := unhide OWN
                  rw [hjn3] at own
                  obtain ⟨b5, o5, c5, hv5, hW5⟩ := wts_scale (unhide W4) hks hM own
                  rw [hv5]
                  have A6 := hide (split_got hW5 c5 T total (unhide HT) hT63)
                  have P5 := hide ((unhide P4).below (unhide BEL))
                  have B5 := hide ((unhide B4).trans ((unhide BEL).mono (unhide B4).size))
                  clear own hW5 hv5 OWN BEL
                  go_wp2_with fail
                  refine (unhide A6).mono ?_
                  rintro e w6 ⟨rb, g3, rfl, hrb, hG6, hb6⟩
                  have P6 := hide ((unhide P5).below hb6)
                  have B6 := hide ((unhide B5).trans (hb6.mono (unhide B5).size))
                  have A7 := hide (same_any g3 g rb pb n n n hn1 w6 (fun k hk => by rw [Nat.zero_add]; exact hG6.cells k hk) (fun k hk => by rw [Nat.zero_add]; exact (unhide P6).cells k hk) (fun k hk => by
                    rw [hG6.val k hk, (unhide P6).val k hk, scale_part ks hks (fun i hi => ((unhide HW).pos i hi).1) hk]))
                  clear hG6 hb6 A6
                  go_wp2_with fail
                  refine (unhide A7).mono ?_
                  rintro e w7 ⟨rfl, m7, hw⟩
                  rw [hw]
                  go_wp2
                  go_ret
                  exact ⟨rfl, below_drewN (unhide B6) m7⟩
end Go.Proofs.YtddpladmkmpoaabDoor
