import Derived.Test.YtcafhmlpmbkhkaaGreatDoorW15
import Derived.Test.YtcafhmlpmbkhkaaGreatDoorW19
import Derived.Test.YtcafhmlpmbkhkaaGreatDoorW23
import Derived.Test.YtcafhmlpmbkhkaaGreatDoorW11
/- The document's money (54), its sums of lists; lists of rows in a variable. -/
namespace Go.Proofs.YtcafhmlpmbkhkaaGreatDoor
open Go Go.Shelf Go.ChangeShapes Go.WideShapes Go.ChangeAt Go.RowKit Go.Maps
set_option linter.unusedVariables false
set_option linter.unusedSimpArgs false
set_option maxRecDepth 100000 in
set_option maxHeartbeats 2000000 in
theorem rmoney_any (a : Int) (d : Nat) (ha : isA a) (hd : d ≤ 6) (w : World) : Calls Tryz.prog 54 #[.int .i64 a, .int .i64 (d : Int)] w (TxtOut w (txt a d)) := by
  have D := hide (rprint_any a d w ha.1 ha.2 hd)
  clear ha
  go_enter Tryz.func54, Tryz.ntmps54
  go_wp2_with fail
  refine (unhide D).mono ?_
  rintro e w1 ⟨rfl, hb⟩
  have HB1 := hide hb
  clear hb D
  go_wp2_with fail
  go_ret
  exact ⟨rfl, unhide HB1⟩
theorem sumZ_same (zs : Nat → Int) : ∀ n, Mw.sumZ zs n = sumZ zs n
  | 0 => rfl
  | n + 1 => by rw [Mw.sumZ, sumZ, sumZ_same zs n]
theorem anyMin_same (zs : Nat → Int) : ∀ n, Mw.anyMin zs n = anyMin zs n
  | 0 => rfl
  | n + 1 => by rw [Mw.anyMin, anyMin, anyMin_same zs n]
theorem sumSpec_same (zs : Nat → Int) (n : Nat) : Mw.sumSpec zs n = sumSpec zs n := by
  unfold Mw.sumSpec sumSpec
  rw [sumZ_same, anyMin_same]
/-- the document's sum of a list -/
theorem rsumL {w W : World} {B : Nat} {p : Option Addr} {n c : Nat} {l : List Int} (hl : l.length = n) (h : W.ownsRow B 2 1 (.slice p n c) n (kN.flat l)) (hz : ∀ z ∈ l, -9223372036854775808 ≤ z ∧ z ≤ 9223372036854775807) (hn : n ≤ 9223372036854775807) :
    Calls Tryz.prog 55 #[.slice p n c] W (TotOut W l) := by
  rcases Nat.eq_zero_or_pos n with h0 | h0
  · subst h0
    have e : l = [] := List.eq_nil_of_length_eq_zero hl
    subst e
    have d := Mw.rsum_zero (fun k => ([] : List Int).getD k 0) p c W
    rw [sumSpec_same] at d
    exact d
  · obtain ⟨g, c', hv⟩ := own_open h h0
    injection hv with h1 _ h2
    subst h1
    have d := Mw.rsum_any (fun k => l.getD k 0) g 0 n c hn (fun k hk => by
      show -9223372036854775808 ≤ l.getD k 0 ∧ l.getD k 0 ≤ 9223372036854775807
      rw [List.getD_eq_getElem?_getD, List.getElem?_eq_getElem (by omega)]
      exact hz _ (List.getElem_mem _)) W (fun k hk => by
      have := h.cellAt k (by omega)
      rw [Nat.zero_add, this, kN_flat, List.getElem?_map, List.getElem?_eq_getElem (by omega), List.getD_eq_getElem?_getD, List.getElem?_eq_getElem (by omega)]
      rfl) (h.lt g rfl).2
    rw [sumSpec_same] at d
    subst hl
    exact d
/-- lists of texts in a variable: the list itself and each of its rows -/
structure RlAt (B : Nat) (W : World) (v : Value) (L : List Sl) (R : List (List Tx)) : Prop where
  own : W.ownsRow B 93 1 v R.length (kS.flat L)
  len : L.length = R.length
  row : ∀ (k : Nat) s r, L[k]? = some s → R[k]? = some r → RowIs W s r
def Rl (B : Nat) (W : World) (v : Value) (R : List (List Tx)) : Prop := ∃ L, RlAt B W v L R
theorem Rl.below {B : Nat} {W W' : World} {v : Value} {R : List (List Tx)} (h : Rl B W v R) (hb : Below W.heap.size W W') : Rl B W' v R := by
  obtain ⟨L, h⟩ := h
  exact ⟨L, own_below h.own hb, h.len, fun k s r hs hr => (h.row k s r hs hr).gd (Gd.of_below (B := 0) hb (Nat.zero_le _))⟩
theorem Rl.slice {B : Nat} {W : World} {v : Value} {R : List (List Tx)} (h : Rl B W v R) : ∃ p c, v = .slice p R.length c := by
  obtain ⟨L, h⟩ := h
  obtain ⟨p, c, e, _⟩ := row_slice h.own
  exact ⟨p, c, e⟩
theorem Rl.rd {B : Nat} {W : World} {p : Option Addr} {n c : Nat} {R : List (List Tx)} (h : Rl B W (.slice p n c) R) : RdAt W p R := by
  obtain ⟨L, h⟩ := h
  intro k r hr
  have hk : k < R.length := by
    rcases Nat.lt_or_ge k R.length with h1 | h1
    · exact h1
    · rw [List.getElem?_eq_none h1] at hr; cases hr
  have hkL : k < L.length := by rw [h.len]; exact hk
  have hri := h.row k _ r (List.getElem?_eq_getElem hkL) hr
  obtain ⟨g, c', hv⟩ := own_open h.own (by omega)
  injection hv with h1 h2 h3
  subst h1 h2 h3
  refine ⟨g, 0, L[k].p, L[k].c, rfl, ?_, fun j x hx => ?_⟩
  · have h1 := h.own.cellAt k (by omega)
    rw [Nat.zero_add, h1]
    have h2 := flat_get kS_ok L k hkL 0 (by decide)
    have h3 : L[k].n = r.length := hri.n
    rw [← h3]
    simpa [kS] using h2
  · have hj : j < r.length := by
      rcases Nat.lt_or_ge j r.length with h1 | h1
      · exact h1
      · rw [List.getElem?_eq_none h1] at hx; cases hx
    obtain ⟨b, o, e, hb, hrr⟩ := hri.lies.2 j hj
    refine ⟨b, o, e, ?_⟩
    have := hrr 0 (.string (txB r[j])) rfl
    rw [List.getElem?_eq_getElem hj] at hx
    have hxx : r[j] = x := Option.some.inj hx
    rw [hxx] at this
    simpa [kT] using this
/-- an append of a row -/
theorem Rl.app {B : Nat} {W : World} {v : Value} {R : List (List Tx)} (h : Rl B W v R) (hB : B ≤ W.heap.size) {p : Option Addr} {n c : Nat} {r : List Tx} (hr : RowIs W ⟨p, n, c⟩ r) (hn : R.length + 1 ≤ 1099511627776) :
    ∃ p' c' w', (Builtin.append_ #[94, 94] 94 #[v, .slice (some ⟨W.heap.size, 0, none⟩) 1 1]).run Tryz.prog (W.alloc (.cells #[.slice p n c] 93)) = .ok (.slice p' (R.length + 1) c') w' ∧ Rl B w' (.slice p' (R.length + 1) c') (R ++ [r]) ∧ Below B W w' ∧ (∀ k, k < W.heap.size → v.ownBlock ≠ some k → w'.heap[k]? = W.heap[k]?) := by
  obtain ⟨L, h⟩ := h
  obtain ⟨O, hO⟩ : ∃ O, O = Obj.cells #[.slice p n c] 93 := ⟨_, rfl⟩
  have b0 : Below W.heap.size W (W.alloc O) := bal (Below.refl _ _) _
  obtain ⟨p', c', w1, r1, o1, b1, k1, q1⟩ := run_app kS_ok (L := L) (M := [(⟨p, n, c⟩ : Sl)]) 94 (h.own.alloc O) (Nat.le_trans hB b0.size) (some ⟨W.heap.size, 0, none⟩) 1 (fun h => by cases h) (by rw [hO]; exact one_lies W (⟨p, n, c⟩ : Sl) 93 _ rfl) hn
  simp only [List.length_singleton] at r1 o1 q1
  rw [hO] at r1
  have kk : ∀ k, k < W.heap.size → v.ownBlock ≠ some k → w1.heap[k]? = W.heap[k]? := fun k hk hne => (k1 k (Nat.lt_of_lt_of_le hk b0.size) hne).trans (b0.block k hk)
  have gd : Gd B W w1 := ⟨(b0.mono hB).trans b1, fun k ys t f hk h1 h2 => kk k (Array.getElem?_eq_some_iff.1 hk).1 (not_own h.own hk h2)⟩
  refine ⟨p', c', w1, r1, ⟨L ++ [(⟨p, n, c⟩ : Sl)], ?_, by simp [h.len], fun k s r' hs hr' => ?_⟩, gd.bel, kk⟩
  · rw [List.length_append, List.length_singleton]
    exact o1
  · by_cases hk : k < R.length
    · rw [List.getElem?_append_left (by rw [h.len]; exact hk)] at hs
      rw [List.getElem?_append_left hk] at hr'
      exact (h.row k s r' hs hr').gd gd
    · have hk2 : k = R.length := by
        have := (List.getElem?_eq_some_iff.1 hr').1
        rw [List.length_append, List.length_singleton] at this
        omega
      subst hk2
      rw [List.getElem?_append_right (Nat.le_refl _), Nat.sub_self] at hr'
      rw [List.getElem?_append_right (by rw [h.len]; exact Nat.le_refl _), h.len, Nat.sub_self] at hs
      cases hs
      cases hr'
      exact hr.gd gd
/-- an append of an amount -/
theorem amt_app {B : Nat} {W : World} {v : Value} {n : Nat} {l : List Int} (h : W.ownsRow B 2 1 v n (kN.flat l)) (hB : B ≤ W.heap.size) (z : Int) (hn : n + 1 ≤ 1099511627776) :
    ∃ p' c' w', (Builtin.append_ #[92, 92] 92 #[v, .slice (some ⟨W.heap.size, 0, none⟩) 1 1]).run Tryz.prog (W.alloc (.cells #[.int .i64 z] 2)) = .ok (.slice p' (n + 1) c') w' ∧ w'.ownsRow B 2 1 (.slice p' (n + 1) c') (n + 1) (kN.flat (l ++ [z])) ∧ Below B W w' ∧ (∀ k, k < W.heap.size → v.ownBlock ≠ some k → w'.heap[k]? = W.heap[k]?) ∧ ((Value.slice p' (n + 1) c').ownBlock = v.ownBlock ∨ (Value.slice p' (n + 1) c').ownBlock = some (W.heap.size + 1)) := by
  obtain ⟨O, hO⟩ : ∃ O, O = Obj.cells #[.int .i64 z] 2 := ⟨_, rfl⟩
  have b0 : Below W.heap.size W (W.alloc O) := bal (Below.refl _ _) _
  obtain ⟨p', c', w1, r1, o1, b1, k1, q1⟩ := run_app kN_ok (L := l) (M := [z]) 92 (h.alloc O) (Nat.le_trans hB b0.size) (some ⟨W.heap.size, 0, none⟩) 1 (fun h => by cases h) (by rw [hO]; exact one_lies W z 2 _ rfl) hn
  simp only [List.length_singleton] at r1 o1 q1
  rw [hO] at r1
  refine ⟨p', c', w1, r1, o1, (b0.mono hB).trans b1, fun k hk hne => (k1 k (Nat.lt_of_lt_of_le hk b0.size) hne).trans (b0.block k hk), ?_⟩
  simpa using q1
end Go.Proofs.YtcafhmlpmbkhkaaGreatDoor
/- The document's Name (ref05). Ported from the chart's seat. -/
namespace Go.Proofs.YtcafhmlpmbkhkaaGreatDoor
open Go Go.ChangeShapes Go.WideShapes Go.ChangeAt Go.RowKit
set_option linter.unusedVariables false
theorem rupper_any (c : Nat) (w : World) : Calls Tryz.prog 139 #[.int .u8 (c : Int)] w fun e w' => e = .returned (.bool (upB c)) ∧ w' = w := by
  unfold upB
  by_cases h1 : 65 ≤ c
  · have i1 : (65 : Int) ≤ (c : Int) := by omega
    by_cases h2 : c ≤ 90
    · have i2 : (c : Int) ≤ 90 := by omega
      go_enter Tryz.func139, Tryz.ntmps139
      go_wp2_with fail
      go_ret
      exact ⟨by simp_all, rfl⟩
    · have i2 : ¬ (c : Int) ≤ 90 := by omega
      go_enter Tryz.func139, Tryz.ntmps139
      go_wp2_with fail
      go_ret
      exact ⟨by simp_all, rfl⟩
  · have i1 : ¬ (65 : Int) ≤ (c : Int) := by omega
    go_enter Tryz.func139, Tryz.ntmps139
    go_wp2_with fail
    go_ret
    exact ⟨by simp_all, rfl⟩
theorem rlower_any (c : Nat) (w : World) : Calls Tryz.prog 140 #[.int .u8 (c : Int)] w fun e w' => e = .returned (.bool (loB c)) ∧ w' = w := by
  unfold loB
  by_cases h1 : 97 ≤ c
  · have i1 : (97 : Int) ≤ (c : Int) := by omega
    by_cases h2 : c ≤ 122
    · have i2 : (c : Int) ≤ 122 := by omega
      go_enter Tryz.func140, Tryz.ntmps140
      go_wp2_with fail
      go_ret
      exact ⟨by simp_all, rfl⟩
    · have i2 : ¬ (c : Int) ≤ 122 := by omega
      go_enter Tryz.func140, Tryz.ntmps140
      go_wp2_with fail
      go_ret
      exact ⟨by simp_all, rfl⟩
  · have i1 : ¬ (97 : Int) ≤ (c : Int) := by omega
    go_enter Tryz.func140, Tryz.ntmps140
    go_wp2_with fail
    go_ret
    exact ⟨by simp_all, rfl⟩
theorem rdigit_any (c : Nat) (w : World) : Calls Tryz.prog 141 #[.int .u8 (c : Int)] w fun e w' => e = .returned (.bool (dgB c)) ∧ w' = w := by
  unfold dgB
  by_cases h1 : 48 ≤ c
  · have i1 : (48 : Int) ≤ (c : Int) := by omega
    by_cases h2 : c ≤ 57
    · have i2 : (c : Int) ≤ 57 := by omega
      go_enter Tryz.func141, Tryz.ntmps141
      go_wp2_with fail
      go_ret
      exact ⟨by simp_all, rfl⟩
    · have i2 : ¬ (c : Int) ≤ 57 := by omega
      go_enter Tryz.func141, Tryz.ntmps141
      go_wp2_with fail
      go_ret
      exact ⟨by simp_all, rfl⟩
  · have i1 : ¬ (48 : Int) ≤ (c : Int) := by omega
    go_enter Tryz.func141, Tryz.ntmps141
    go_wp2_with fail
    go_ret
    exact ⟨by simp_all, rfl⟩
set_option maxRecDepth 100000 in
set_option maxHeartbeats 8000000 in
theorem rname_any (s : ByteArray) (hs : s.size ≤ 9223372036854775000) (w : World) : Calls Tryz.prog 53 #[.string s] w fun e w' => e = .returned (.bool (nameL s.data.toList)) ∧ w' = w := by
  go_enter Tryz.func53, Tryz.ntmps53
  go_wp2_with fail
  go_loopw [3, 4, 5] (fun vp vs vi wr => ∃ (k parts size : Nat), k ≤ s.size ∧ vp = .int .i64 parts ∧ vs = .int .i64 size ∧ vi = .int .i64 k ∧ size ≤ 16 ∧ parts ≤ k + 1 ∧ nm 1 0 s.data.toList = nm parts size (s.data.toList.drop k) ∧ wr = w) (fun _ _ i _ => s.size - (RowKit.intOf i).toNat)
  case atStart => exact ⟨0, 1, 0, by omega, rfl, rfl, rfl, by omega, by omega, rfl, rfl⟩
  case round =>
    obtain ⟨k, parts, size, hk, rfl, rfl, rfl, h16, hpk, hd, rfl⟩ := hrel
    by_cases hlt : k < s.size
    · have hI : (k : Int) < (s.size : Int) := by omega
      have hI0 : (0 : Int) ≤ (k : Int) := by omega
      rw [drop_byte hlt, nm_step] at hd
      obtain ⟨c, hc⟩ : ∃ c, s[k] = c := ⟨_, rfl⟩
      rw [hc] at hd
      obtain ⟨B, hB⟩ : ∃ B : Nat, c.toNat = B := ⟨_, rfl⟩
      have hB' : (s[k]).toNat = B := by rw [hc]; exact hB
      rw [hB] at hd
      have c58 : c = 58 ↔ B = 58 := by
        constructor
        · intro e; rw [← hB, e]; rfl
        · intro e; exact UInt8.toNat_inj.1 (by rw [hB, e]; rfl)
      simp only [c58] at hd
      clear hc hB c58
      have dU := hide (rupper_any B)
      have dL := hide (rlower_any B)
      have dD := hide (rdigit_any B)
      by_cases t58 : B = 58
      · subst t58
        rw [if_pos rfl] at hd
        by_cases z : size = 0
        · subst z
          rw [if_pos rfl, nm_name] at hd
          have HD := hide hd
          clear hd
          go_wp2_with fail
          refine (unhide dU wr).mono ?_
          rintro e w1 ⟨rfl, hw⟩
          rw [hw]
          clear hw w1
          go_wp2_with fail
          refine (unhide dL wr).mono ?_
          rintro e w1 ⟨rfl, hw⟩
          rw [hw]
          clear hw w1
          go_wp2_with fail
          refine (unhide dD wr).mono ?_
          rintro e w1 ⟨rfl, hw⟩
          rw [hw]
          clear hw w1
          go_wp2_with fail
          go_ret
          exact ⟨by rw [unhide HD]; rfl, rfl⟩
        · have z1 : ((size : Int) == 0) = false := by simp; omega
          rw [if_neg z] at hd
          have HD := hide hd
          clear hd
          go_wp2_with fail
          refine (unhide dU wr).mono ?_
          rintro e w1 ⟨rfl, hw⟩
          rw [hw]
          clear hw w1
          go_wp2_with fail
          refine (unhide dL wr).mono ?_
          rintro e w1 ⟨rfl, hw⟩
          rw [hw]
          clear hw w1
          go_wp2_with fail
          refine (unhide dD wr).mono ?_
          rintro e w1 ⟨rfl, hw⟩
          rw [hw]
          clear hw w1
          go_wp2_with fail
          refine ⟨⟨k + 1, parts + 1, 0, by omega, by go_num, by go_num, by go_num, by omega, by omega, unhide HD, trivial⟩, by simp [RowKit.intOf]; omega⟩
      · have v58 : ((B : Int) == 58) = false := by simp; omega
        rw [if_neg t58] at hd
        by_cases z : size = 0
        · subst z
          by_cases t0 : upB B = true
          · rw [t0] at dU
            have hp : partB B = true := by unfold partB; rw [t0]; rfl
            rw [if_neg (by simp [t0, hp])] at hd
            rw [if_neg (by omega)] at hd
            have HD := hide hd
            clear hd
            go_wp2_with fail
            refine (unhide dU wr).mono ?_
            rintro e w1 ⟨rfl, hw⟩
            rw [hw]
            clear hw w1
            go_wp2_with fail
            refine (unhide dL wr).mono ?_
            rintro e w1 ⟨rfl, hw⟩
            rw [hw]
            clear hw w1
            go_wp2_with fail
            refine (unhide dD wr).mono ?_
            rintro e w1 ⟨rfl, hw⟩
            rw [hw]
            clear hw w1
            go_wp2_with fail
            refine ⟨⟨k + 1, parts, 1, by omega, by go_num, by go_num, by go_num, by omega, by omega, unhide HD, trivial⟩, by simp [RowKit.intOf]; omega⟩
          · have u0 : upB B = false := by simpa using t0
            rw [u0] at dU
            rw [if_pos (.inl ⟨rfl, u0⟩)] at hd
            rw [nm_name] at hd
            have HD := hide hd
            clear hd
            go_wp2_with fail
            refine (unhide dU wr).mono ?_
            rintro e w1 ⟨rfl, hw⟩
            rw [hw]
            clear hw w1
            go_wp2_with fail
            refine (unhide dL wr).mono ?_
            rintro e w1 ⟨rfl, hw⟩
            rw [hw]
            clear hw w1
            go_wp2_with fail
            refine (unhide dD wr).mono ?_
            rintro e w1 ⟨rfl, hw⟩
            rw [hw]
            clear hw w1
            go_wp2_with fail
            go_ret
            exact ⟨by rw [unhide HD]; rfl, rfl⟩
        · have z1 : ((size : Int) == 0) = false := by simp; omega
          by_cases t0 : upB B = true
          · rw [t0] at dU
            have hp : partB B = true := by simp [partB, tagB, t0]
            rw [if_neg (by simp [z, hp])] at hd
            by_cases hz : 16 < size + 1
            · have hz1 : (16 : Int) < (size : Int) + 1 := by omega
              rw [if_pos hz, nm_name] at hd
              have HD := hide hd
              clear hd
              go_wp2_with fail
              refine (unhide dU wr).mono ?_
              rintro e w1 ⟨rfl, hw⟩
              rw [hw]
              clear hw w1
              go_wp2_with fail
              refine (unhide dL wr).mono ?_
              rintro e w1 ⟨rfl, hw⟩
              rw [hw]
              clear hw w1
              go_wp2_with fail
              refine (unhide dD wr).mono ?_
              rintro e w1 ⟨rfl, hw⟩
              rw [hw]
              clear hw w1
              go_wp2_with fail
              go_ret
              exact ⟨by rw [unhide HD]; rfl, rfl⟩
            · have hz1 : ¬ (16 : Int) < (size : Int) + 1 := by omega
              rw [if_neg hz] at hd
              have HD := hide hd
              clear hd
              go_wp2_with fail
              refine (unhide dU wr).mono ?_
              rintro e w1 ⟨rfl, hw⟩
              rw [hw]
              clear hw w1
              go_wp2_with fail
              refine (unhide dL wr).mono ?_
              rintro e w1 ⟨rfl, hw⟩
              rw [hw]
              clear hw w1
              go_wp2_with fail
              refine (unhide dD wr).mono ?_
              rintro e w1 ⟨rfl, hw⟩
              rw [hw]
              clear hw w1
              go_wp2_with fail
              refine ⟨⟨k + 1, parts, size + 1, by omega, by go_num, by go_num, by go_num, by omega, by omega, unhide HD, trivial⟩, by simp [RowKit.intOf]; omega⟩
          · have u0 : upB B = false := by simpa using t0
            rw [u0] at dU
            by_cases t1 : loB B = true
            · rw [t1] at dL
              have hp : partB B = true := by simp [partB, tagB, t1]
              rw [if_neg (by simp [z, hp])] at hd
              by_cases hz : 16 < size + 1
              · have hz1 : (16 : Int) < (size : Int) + 1 := by omega
                rw [if_pos hz, nm_name] at hd
                have HD := hide hd
                clear hd
                go_wp2_with fail
                refine (unhide dU wr).mono ?_
                rintro e w1 ⟨rfl, hw⟩
                rw [hw]
                clear hw w1
                go_wp2_with fail
                refine (unhide dL wr).mono ?_
                rintro e w1 ⟨rfl, hw⟩
                rw [hw]
                clear hw w1
                go_wp2_with fail
                refine (unhide dD wr).mono ?_
                rintro e w1 ⟨rfl, hw⟩
                rw [hw]
                clear hw w1
                go_wp2_with fail
                go_ret
                exact ⟨by rw [unhide HD]; rfl, rfl⟩
              · have hz1 : ¬ (16 : Int) < (size : Int) + 1 := by omega
                rw [if_neg hz] at hd
                have HD := hide hd
                clear hd
                go_wp2_with fail
                refine (unhide dU wr).mono ?_
                rintro e w1 ⟨rfl, hw⟩
                rw [hw]
                clear hw w1
                go_wp2_with fail
                refine (unhide dL wr).mono ?_
                rintro e w1 ⟨rfl, hw⟩
                rw [hw]
                clear hw w1
                go_wp2_with fail
                refine (unhide dD wr).mono ?_
                rintro e w1 ⟨rfl, hw⟩
                rw [hw]
                clear hw w1
                go_wp2_with fail
                refine ⟨⟨k + 1, parts, size + 1, by omega, by go_num, by go_num, by go_num, by omega, by omega, unhide HD, trivial⟩, by simp [RowKit.intOf]; omega⟩
            · have u1 : loB B = false := by simpa using t1
              rw [u1] at dL
              by_cases t2 : dgB B = true
              · rw [t2] at dD
                have hp : partB B = true := by simp [partB, tagB, t2]
                rw [if_neg (by simp [z, hp])] at hd
                by_cases hz : 16 < size + 1
                · have hz1 : (16 : Int) < (size : Int) + 1 := by omega
                  rw [if_pos hz, nm_name] at hd
                  have HD := hide hd
                  clear hd
                  go_wp2_with fail
                  refine (unhide dU wr).mono ?_
                  rintro e w1 ⟨rfl, hw⟩
                  rw [hw]
                  clear hw w1
                  go_wp2_with fail
                  refine (unhide dL wr).mono ?_
                  rintro e w1 ⟨rfl, hw⟩
                  rw [hw]
                  clear hw w1
                  go_wp2_with fail
                  refine (unhide dD wr).mono ?_
                  rintro e w1 ⟨rfl, hw⟩
                  rw [hw]
                  clear hw w1
                  go_wp2_with fail
                  go_ret
                  exact ⟨by rw [unhide HD]; rfl, rfl⟩
                · have hz1 : ¬ (16 : Int) < (size : Int) + 1 := by omega
                  rw [if_neg hz] at hd
                  have HD := hide hd
                  clear hd
                  go_wp2_with fail
                  refine (unhide dU wr).mono ?_
                  rintro e w1 ⟨rfl, hw⟩
                  rw [hw]
                  clear hw w1
                  go_wp2_with fail
                  refine (unhide dL wr).mono ?_
                  rintro e w1 ⟨rfl, hw⟩
                  rw [hw]
                  clear hw w1
                  go_wp2_with fail
                  refine (unhide dD wr).mono ?_
                  rintro e w1 ⟨rfl, hw⟩
                  rw [hw]
                  clear hw w1
                  go_wp2_with fail
                  refine ⟨⟨k + 1, parts, size + 1, by omega, by go_num, by go_num, by go_num, by omega, by omega, unhide HD, trivial⟩, by simp [RowKit.intOf]; omega⟩
              · have u2 : dgB B = false := by simpa using t2
                rw [u2] at dD
                by_cases t3 : B = 45
                · subst t3
                  rw [if_neg (by simp [z]; rfl)] at hd
                  by_cases hz : 16 < size + 1
                  · have hz1 : (16 : Int) < (size : Int) + 1 := by omega
                    rw [if_pos hz, nm_name] at hd
                    have HD := hide hd
                    clear hd
                    go_wp2_with fail
                    refine (unhide dU wr).mono ?_
                    rintro e w1 ⟨rfl, hw⟩
                    rw [hw]
                    clear hw w1
                    go_wp2_with fail
                    refine (unhide dL wr).mono ?_
                    rintro e w1 ⟨rfl, hw⟩
                    rw [hw]
                    clear hw w1
                    go_wp2_with fail
                    refine (unhide dD wr).mono ?_
                    rintro e w1 ⟨rfl, hw⟩
                    rw [hw]
                    clear hw w1
                    go_wp2_with fail
                    go_ret
                    exact ⟨by rw [unhide HD]; rfl, rfl⟩
                  · have hz1 : ¬ (16 : Int) < (size : Int) + 1 := by omega
                    rw [if_neg hz] at hd
                    have HD := hide hd
                    clear hd
                    go_wp2_with fail
                    refine (unhide dU wr).mono ?_
                    rintro e w1 ⟨rfl, hw⟩
                    rw [hw]
                    clear hw w1
                    go_wp2_with fail
                    refine (unhide dL wr).mono ?_
                    rintro e w1 ⟨rfl, hw⟩
                    rw [hw]
                    clear hw w1
                    go_wp2_with fail
                    refine (unhide dD wr).mono ?_
                    rintro e w1 ⟨rfl, hw⟩
                    rw [hw]
                    clear hw w1
                    go_wp2_with fail
                    refine ⟨⟨k + 1, parts, size + 1, by omega, by go_num, by go_num, by go_num, by omega, by omega, unhide HD, trivial⟩, by simp [RowKit.intOf]; omega⟩
                · have v3 : ((B : Int) == 45) = false := by simp; omega
                  have hp : partB B = false := by simp [partB, tagB, u0, u1, u2, t3]
                  rw [if_pos (.inr hp)] at hd
                  rw [nm_name] at hd
                  have HD := hide hd
                  clear hd
                  go_wp2_with fail
                  refine (unhide dU wr).mono ?_
                  rintro e w1 ⟨rfl, hw⟩
                  rw [hw]
                  clear hw w1
                  go_wp2_with fail
                  refine (unhide dL wr).mono ?_
                  rintro e w1 ⟨rfl, hw⟩
                  rw [hw]
                  clear hw w1
                  go_wp2_with fail
                  refine (unhide dD wr).mono ?_
                  rintro e w1 ⟨rfl, hw⟩
                  rw [hw]
                  clear hw w1
                  go_wp2_with fail
                  go_ret
                  exact ⟨by rw [unhide HD]; rfl, rfl⟩
    · have hkl : k = s.size := by omega
      have hI : ¬ (k : Int) < (s.size : Int) := by omega
      rw [List.drop_eq_nil_of_le (by simp; omega), nm_name] at hd
      have HD := hide (show nameL s.data.toList = (decide (0 < size) && decide (parts ≤ 6)) from hd)
      clear hd hkl
      by_cases z : 0 < size
      · have z1 : (0 : Int) < (size : Int) := by omega
        by_cases y : parts ≤ 6
        · have y1 : (parts : Int) ≤ 6 := by omega
          rw [decide_eq_true z, decide_eq_true y] at HD
          go_wp2_with fail
          go_ret
          exact ⟨by rw [unhide HD]; rfl, rfl⟩
        · have y1 : ¬ (parts : Int) ≤ 6 := by omega
          rw [decide_eq_true z, decide_eq_false y] at HD
          go_wp2_with fail
          go_ret
          exact ⟨by rw [unhide HD]; rfl, rfl⟩
      · have z1 : ¬ (0 : Int) < (size : Int) := by omega
        rw [decide_eq_false z] at HD
        go_wp2_with fail
        go_ret
        exact ⟨by rw [unhide HD]; rfl, rfl⟩
end Go.Proofs.YtcafhmlpmbkhkaaGreatDoor
