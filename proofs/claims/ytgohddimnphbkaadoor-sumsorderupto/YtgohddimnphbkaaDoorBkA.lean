/- SumsBack (3): its walk. -/
import Derived.Test.YtgohddimnphbkaaDoorFsA
import Derived.Test.YtgohddimnphbkaaDoorBlA
import Derived.Test.YtgohddimnphbkaaDoorRoB
namespace Go.Proofs.YtgohddimnphbkaaDoor
open Go Go.RowKit Go.Shelf Go.ChangeShapes Go.WideShapes Go.ChangeAt Go.Maps Go.Sort
set_option linter.unusedVariables false
attribute [local go_sem ↓] ld35_is
theorem run_ldO {w : World} {g o : Nat} {r : Ro} (h : w.rangeAt g o r.vals) : (ld35 (.pointer (some ⟨g, o, none⟩))).run Tryd.prog w = .ok (.agg #[.int .i64 r.i0, .int .i64 r.i1, .int .i64 r.i2, .int .i64 r.i3, .string r.s4, .string r.acc, .int .i64 r.amt, .string r.s7, .string r.s8]) w :=
  run_loadAt_mid (P := Tryd.prog) w g o 35 r.vals _ h Tryd.underlying35 rfl size35
/-- a row with the opposite amount -/
def bRo (r : Ro) : Ro := { r with amt := IntKind.i64.wrap (-r.amt) }
def inB (R : List Ro) (name : ByteArray) : Bool := R.any fun r => undB r.acc name || (r.acc.toList == name.toList)
theorem inB_snoc (R : List Ro) (r : Ro) (name : ByteArray) : inB (R ++ [r]) name = (inB R name || (undB r.acc name || (r.acc.toList == name.toList))) := by simp [inB]
/-- what can be of rows that came in -/
structure Can (R : List Ro) : Prop where
  len : R.length ≤ 1048576
  acc : ∀ r ∈ R, r.acc.size < 4611686018427387904
  amt : ∀ r ∈ R, -9223372036854775808 ≤ r.amt ∧ r.amt ≤ 9223372036854775807
theorem Can.back {R : List Ro} (h : Can R) : Can (R.map bRo) where
  len := by rw [List.length_map]; exact h.len
  acc r hr := by
    obtain ⟨q, hq, rfl⟩ := List.mem_map.1 hr
    exact h.acc q hq
  amt r hr := by
    obtain ⟨q, hq, rfl⟩ := List.mem_map.1 hr
    show -9223372036854775808 ≤ IntKind.i64.wrap (-q.amt) ∧ IntKind.i64.wrap (-q.amt) ≤ 9223372036854775807
    rw [IntKind.wrap_i64]
    omega
theorem rws_back {R : List Ro} (h : ∀ r ∈ R, okRow r) : rws (R.map bRo) = opp (rws R) := by
  unfold rws opp
  rw [List.map_map, List.map_map]
  refine List.map_congr_left fun r hr => ?_
  have ha := (h r hr).2
  show (r.acc.data.toList, IntKind.i64.wrap (-r.amt)) = (r.acc.data.toList, -r.amt)
  rw [wrap_isA ⟨by omega, by omega⟩]
theorem ok_back {R : List Ro} (h : ∀ r ∈ R, okRow r) : ∀ r ∈ R.map bRo, okRow r := fun r hr => by
  obtain ⟨q, hq, rfl⟩ := List.mem_map.1 hr
  have ha := (h q hq).2
  refine ⟨(h q hq).1, ?_⟩
  show isA (IntKind.i64.wrap (-q.amt))
  rw [wrap_isA ⟨by omega, by omega⟩]
  exact ⟨by omega, by omega⟩
/-- rows elsewhere do not change a rollup -/
theorem roll_else {R : List Ro} {name : ByteArray} (h : inB R name = false) : roll ups (rws R) name.data.toList = 0 := by
  refine sm_zero fun r hr => ?_
  obtain ⟨q, hq, rfl⟩ := List.mem_map.1 hr
  rw [inB, List.any_eq_false] at h
  have h1 := h q hq
  simp only [Bool.or_eq_true, not_or, Bool.not_eq_true] at h1
  refine if_neg fun hm => ?_
  rcases List.mem_cons.1 hm with e | hm
  · have h2 := h1.2
    rw [Lib.toList_data, Lib.toList_data] at h2
    rw [beq_eq_false_iff_ne] at h2
    exact h2 e.symm
  · have h2 := h1.1
    unfold undB at h2
    rw [decide_eq_false_iff_not] at h2
    exact h2 hm
theorem Stp.row {W W' : World} {d : Nat} {mo mr mo' mr' : Option Nat} {n : Nat} {f g : List UInt8 → Int} {a c : Int} (hp : Stp W W' d mo mr mo' mr') (hs : SumsAt W d mo mr n f g a c) {B e s k : Nat} {v : Value} {xs : List Value} (h : W.ownsRow B e s v k xs) (hB : d < B) : W'.ownsRow B e s v k xs := by
  refine row_keep h (fun q hq => ?_)
  obtain ⟨h1, h2, o, ho, hc⟩ := row_block h hq
  refine hp.fr.block q h2 (fun hb => ?_)
  rcases hs.kind hb with e | ⟨es, clock, e⟩
  · omega
  · rw [e] at ho
    cases ho
    cases hc
theorem Stp.below {W W' : World} {d : Nat} {mo mr mo' mr' : Option Nat} {n : Nat} {f g : List UInt8 → Int} {a c : Int} (hp : Stp W W' d mo mr mo' mr') {B : Nat} (hB : B ≤ W.heap.size) (hk : ∀ k, Blk d mo mr k → B ≤ k) : Below B W W' := hp.fr.toBelow hB hk
set_option maxRecDepth 100000 in
set_option maxHeartbeats 8000000 in
theorem back_walk (R0 R1 : List Ro) (h0 : Can R0) (h1 : Can R1) (pu pr : Option Addr) (cu cr : Nat) (vP vC : Value) (name : ByteArray) (hnm : name.size < 4611686018427387904) (w : World) (hcu : pu = none → cu = 0) (hcr : pr = none → cr = 0) (hI0 : RowsIn w pu R0) (hI1 : RowsIn w pr R1) :
    Calls Tryd.prog 3 #[.agg #[.slice pu R0.length cu, vP, vC], .slice pr R1.length cr, .string name] w fun e w' => e = .returned (.bool true) ∧ Below w.heap.size w w' := by
  have H0 := hide h0; have H1 := hide h1; have HI0 := hide hI0; have HI1 := hide hI1; have HCU := hide hcu; have HCR := hide hcr
  obtain ⟨N0, hN0⟩ : ∃ N, N = R0.length := ⟨_, rfl⟩
  obtain ⟨N1, hN1⟩ : ∃ N, N = R1.length := ⟨_, rfl⟩
  rw [← hN0, ← hN1]
  have HN0 := hide hN0; have HN1 := hide hN1
  clear hcu hcr hI0 hI1 hN0 hN1 h0 h1
  obtain ⟨W, hW⟩ : ∃ W, W = w.alloc (.cells #[.slice pu N0 cu, vP, vC] 25) := ⟨_, rfl⟩
  have hbW : Below w.heap.size w W := by rw [hW]; exact bal (Below.refl _ _) _
  have dF := hide (first_any W)
  have HBW := hide hbW
  have hc0 : W.cell? ⟨w.heap.size, 0, none⟩ = some (.slice pu N0 cu) := by rw [hW, World.cell?_alloc_mark]; rfl
  have HC0 := hide hc0
  clear hbW hc0
  have hWs : w.heap.size < W.heap.size := by rw [hW]; simp
  have HWs := hide hWs
  clear hWs
  subst hW
  go_enter Tryd.func3, Tryd.ntmps3
  go_wp2_with fail
  refine (unhide dF).mono ?_
  rintro e w1 ⟨rfl, hb1⟩
  have hB1 : Below w.heap.size w w1 := (unhide HBW).trans (hb1.mono (by simp))
  have hc1 := (hb1.cell (p := ⟨w.heap.size, 0, none⟩) (unhide HWs)).trans (unhide HC0)
  have hz1 : w.heap.size < w1.heap.size := Nat.lt_of_lt_of_le (unhide HWs) hb1.size
  obtain ⟨O2, hO2⟩ : ∃ O, O = Obj.cells #[.map none, .map none, .int .i64 0, .int .i64 0] 56 := ⟨_, rfl⟩
  have dN := hide (new_any w1)
  rw [← hO2] at dN
  have hV2 : View (w1.alloc O2) w1.heap.size none none 0 [] := by rw [hO2]; exact View.made w1 0
  have hc2 : (w1.alloc O2).cell? ⟨w.heap.size, 0, none⟩ = some (.slice pu N0 cu) := (World.cell?_alloc_lt w1 O2 ⟨w.heap.size, 0, none⟩ hz1).trans hc1
  have hB2 : Below w.heap.size w (w1.alloc O2) := hB1.alloc (by omega) O2
  have hs2 : (w1.alloc O2).heap.size = w1.heap.size + 1 := by simp
  obtain ⟨w2, hw2⟩ : ∃ w2, w2 = w1.alloc O2 := ⟨_, rfl⟩
  rw [← hw2] at hV2 hc2 hB2 hs2 dN
  obtain ⟨p3, c3, w3, hap, hR3, hp3, hb3⟩ := run_append_rows w2 22 pu cu R0 (unhide HCU) ((unhide HI0).below hB2) (by have := (unhide H0).len; omega)
  rw [← unhide HN0] at hap
  have hV3 := hV2.below hb3
  have dA := hide (apply_view (cR := c3) hV3 (by omega) (by have := (unhide H0).len; omega) hR3 (fun q h => by have := hp3 q h; omega) (unhide H0).acc (unhide H0).amt)
  rw [← unhide HN0] at dA
  have HAP := hide hap; have HB1 := hide hB1; have HB2 := hide hB2; have HB3 := hide hb3; have HV3 := hide hV3; have HZ1 := hide hz1; have HS2 := hide hs2
  clear hap hB1 hB2 hb3 hV3 hV2 hz1 hs2 hR3 hp3 hb1 hc1 hw2 hO2 dF
  go_wp2_with fail
  refine (unhide dN).mono ?_
  rintro e wx ⟨rfl, hw⟩
  rw [hw]
  clear hw wx dN
  go_wp2_with (at_builtin; refine wpList_append_run rfl _ _ 22 rfl _ _ _ _ rfl rfl (unhide HAP) ?_)
  refine (unhide dA).mono ?_
  rintro e w4 hO
  rcases hO with ⟨hno, ⟨x, rfl, hx⟩, hb4⟩ | ⟨hok0, rfl, mo, mr, hV4, hst4⟩
  · have hB4 : Below w.heap.size w w4 := (unhide HB2).trans (((unhide HB3).trans (hb4.mono (unhide HB3).size)).mono (by have := unhide HS2; have := unhide HZ1; omega))
    have HB4 := hide hB4
    have hxb : (x != 0) = true := by rcases hx with rfl | rfl <;> rfl
    have hxb2 : (x == 0) = false := by rcases hx with rfl | rfl <;> rfl
    clear hb4 hB4 hno hx
    go_wp2_with fail
    go_ret
    exact ⟨rfl, unhide HB4⟩
  rw [List.nil_append] at hV4
  have hB3 : Below w.heap.size w w3 := (unhide HB2).trans ((unhide HB3).mono (by have := unhide HS2; have := unhide HZ1; omega))
  have hz3 : w1.heap.size < w3.heap.size := by have := unhide HS2; have := (unhide HB3).size; omega
  have hB4 : Below w.heap.size w w4 := hB3.trans (hst4.fr.toBelow (by have := unhide HZ1; omega) (fun k hk => by
    have h1 := unhide HZ1
    rcases hk with rfl | hk | hk
    · omega
    · cases hk
    · cases hk))
  have hn4 : 0 + 7 * R0.length ≤ 68719476736 := by have := (unhide H0).len; omega
  have hd4 : w1.heap.size < w4.heap.size := Nat.lt_of_lt_of_le hz3 hst4.fr.size
  have dS := hide (state_view hV4 hn4)
  have hnw4 : Hid (∀ k, Blk w1.heap.size mo mr k → w.heap.size ≤ k) := fun k hk => by
    have h1 := unhide HZ1
    rcases hst4.new k hk with hk | hk
    · rcases hk with rfl | hk | hk
      · omega
      · cases hk
      · cases hk
    · omega
  have HV4 := hide hV4; have HB4 := hide hB4; have HOK0 := hide hok0; have HN4 := hide hn4; have HD4 := hide hd4
  clear hV4 hB4 hok0 hn4 hd4 hz3 hB3 hst4 dA HAP HB1 HB2 HB3 HV3 HC0
  go_wp2_with fail
  refine (unhide dS).mono ?_
  rintro e w5 ⟨v5, hs5, rfl, hbal5, hlen5, hb5⟩
  have hV5 := (unhide HV4).below hb5
  have dRo := hide (roll_any name (by unfold maxLen; omega) _ _ _ _ _ _ _ _ w5 hV5.at')
  obtain ⟨G, hG⟩ : ∃ G, G = roll ups (rws R0) name.data.toList := ⟨_, rfl⟩
  rw [← hG] at dRo
  have hB5 : Below w.heap.size w w5 := (unhide HB4).trans (hb5.mono (unhide HB4).size)
  have hd5 : w1.heap.size < w5.heap.size := Nat.lt_of_lt_of_le (unhide HD4) hb5.size
  have HG := hide hG; have HV5 := hide hV5; have HBAL := hide hbal5; have HB5 := hide hB5; have HL5 := hide hlen5; have HD5 := hide hd5
  clear hG hV5 hbal5 hB5 hlen5 hb5 hd5 dS
  go_wp2_with fail
  refine (unhide dRo).mono ?_
  rintro e wx ⟨rfl, hw⟩
  rw [hw]
  clear hw wx dRo
  go_wp2_with fail
  have hN1b : N1 ≤ 1048576 := by rw [unhide HN1]; exact (unhide H1).len
  go_loopw [11, 12, 13] (fun v11 v12 v13 wr => ∃ (k : Nat), v13 = .int .i64 k ∧ k ≤ N1 ∧ v12 = .bool (inB (R1.take k) name) ∧ Hid (wr.ownsRow w5.heap.size 35 9 v11 k (flatR ((R1.take k).map bRo)) ∧ Below w5.heap.size w5 wr)) (fun _ _ v13 _ => N1 - (intOf v13).toNat)
  case atStart => exact ⟨0, rfl, by omega, rfl, World.ownsRow_nil _ _ _ _, Below.refl _ _⟩
  case round =>
    obtain ⟨k, rfl, hk, rfl, hrel⟩ := hrel
    by_cases hlt : k < N1
    · have hkR : k < R1.length := by rw [← unhide HN1]; exact hlt
      obtain ⟨hrow, hbk⟩ := unhide hrel
      have hbwr : Below w.heap.size w wr := (unhide HB5).trans (hbk.mono (unhide HB5).size)
      obtain ⟨b, off, hp, hlb, hr⟩ := ((unhide HI1).below hbwr).2 k hkR
      obtain ⟨r, hrr⟩ : ∃ r, r = R1[k] := ⟨_, rfl⟩
      rw [← hrr] at hr
      subst hp
      have hld := run_ldO hr
      have hrm : r ∈ R1 := by rw [hrr]; exact List.getElem_mem hkR
      obtain ⟨Y, hY⟩ : ∃ Y, IntKind.i64.wrap (-r.amt) = Y := ⟨_, rfl⟩
      obtain ⟨A, hA⟩ : ∃ A, A = Obj.cells #[.int .i64 r.i0, .int .i64 r.i1, .int .i64 r.i2, .int .i64 r.i3, .string r.s4, .string r.acc, .int .i64 Y, .string r.s7, .string r.s8] 35 := ⟨_, rfl⟩
      have hbv : (bRo r).vals = [.int .i64 r.i0, .int .i64 r.i1, .int .i64 r.i2, .int .i64 r.i3, .string r.s4, .string r.acc, .int .i64 Y, .string r.s7, .string r.s8] := by
        show [Value.int .i64 r.i0, .int .i64 r.i1, .int .i64 r.i2, .int .i64 r.i3, .string r.s4, .string r.acc, .int .i64 (IntKind.i64.wrap (-r.amt)), .string r.s7, .string r.s8] = _
        rw [hY]
      have hrA : (wr.alloc A).rangeAt wr.heap.size 0 (bRo r).vals := fun j u hu => by
        rw [hbv] at hu
        rw [hA, World.cell?_alloc_mark, Nat.zero_add]
        simpa using hu
      have hld2 : (ld35 (.pointer (some ⟨wr.heap.size, 0, none⟩))).run Tryd.prog (wr.alloc A) = .ok (.agg #[.int .i64 r.i0, .int .i64 r.i1, .int .i64 r.i2, .int .i64 r.i3, .string r.s4, .string r.acc, .int .i64 Y, .string r.s7, .string r.s8]) (wr.alloc A) := by
        have h := run_ldO hrA
        have e : (bRo r).amt = Y := hY
        rw [e] at h
        exact h
      obtain ⟨i0, hi0, hz0, hz1', hz2'⟩ := info_parts info35
      have hrowA := (hrow.alloc A).alloc A
      have hnw : Hid (∀ j u, (bRo r).vals[j]? = some u → ((wr.alloc A).alloc A).cell? ((⟨wr.heap.size + 1, 0, none⟩ : Addr).add j) = some u) := fun j u hu => by
        have e : wr.heap.size + 1 = (wr.alloc A).heap.size := by simp
        rw [hbv] at hu
        rw [Addr.add_mid, Nat.zero_add, e, hA, World.cell?_alloc_mark]
        simpa using hu
      have HRA := hide hrowA; have HI := hide hi0; have HZ0 := hide hz0; have HZ1' := hide hz1'; have HZ2' := hide hz2'; have HBV := hide hbv
      have hsA : Hid (w5.heap.size ≤ ((wr.alloc A).alloc A).heap.size) := by show _ ≤ _; have := hbk.size; simp; omega
      have hl1 : Hid (k + 1 ≤ maxLen) := by show _ ≤ _; unfold maxLen; omega
      have hl2 : Hid ((k + 1) * 104 ≤ 140737488355328) := by show _ ≤ _; omega
      have dB := hide (below_any r.acc name ((unhide H1).acc r hrm) hnm)
      have hupd : Hid (∀ v' W', W'.ownsRow w5.heap.size 35 9 v' (k + 1) (flatR ((R1.take k).map bRo) ++ (bRo r).vals) → ((wr.alloc A).alloc A).grownBy W' u11.ownBlock → (W'.ownsRow w5.heap.size 35 9 v' (k + 1) (flatR ((R1.take (k + 1)).map bRo)) ∧ Below w5.heap.size w5 W') ∧ W'.cell? ⟨wr.heap.size, 5, none⟩ = some (.string r.acc)) := fun v' W' ho hg => by
        have hks : ∀ q, wr.heap.size ≤ q → some q ≠ u11.ownBlock := fun q hq e => by have := (row_block hrow e.symm).2.1; omega
        refine ⟨⟨?_, hbk.trans ⟨hg.os, hg.tape, hg.output, Nat.le_trans (by simp; omega) hg.size, fun q hq => ?_⟩⟩, ?_⟩
        · rw [take_snoc R1 k hkR, List.map_append, flatR_append, ← hrr]
          show W'.ownsRow _ 35 9 v' (k + 1) (_ ++ flatR [bRo r])
          rw [flatR_one]
          exact ho
        · have h1 : q < wr.heap.size := Nat.lt_of_lt_of_le hq hbk.size
          refine (hg.block q (by simp; omega) (fun e => ?_)).trans ((Below.heap_alloc _ _ q (by simp; omega)).trans (Below.heap_alloc _ _ q h1))
          have := (row_block hrow e.symm).1
          omega
        · rw [World.cell?_of_block (a := ⟨wr.heap.size, 5, none⟩) (hg.block wr.heap.size (by simp; omega) (hks _ (Nat.le_refl _))), World.cell?_alloc_lt _ _ _ (by simp), hA, World.cell?_alloc_mark]
          rfl
      have HIN : Hid (inB (R1.take (k + 1)) name = (inB (R1.take k) name || (undB r.acc name || (r.acc.toList == name.toList)))) := by
        show _ = _
        rw [take_snoc R1 k hkR, inB_snoc, ← hrr]
      obtain ⟨b1, hb1⟩ : ∃ x, x = inB (R1.take k) name := ⟨_, rfl⟩
      obtain ⟨b2, hb2⟩ : ∃ x, x = undB r.acc name := ⟨_, rfl⟩
      obtain ⟨b3, hb3⟩ : ∃ x, (r.acc.toList == name.toList) = x := ⟨_, rfl⟩
      rw [← hb1]
      rw [← hb1, ← hb2, hb3] at HIN
      rw [← hb2] at dB
      clear hrow hbk hbwr hr hlb hrr hrm hbv hrA hi0 hz0 hz1' hz2' hrowA hb1 hb2
      subst hA
      go_wp2_with (at_builtin; refine wpList_append_own_at _ rfl _ _ 22 rfl w5.heap.size 35 i0 _ 9 104 Tryd.underlying22 (unhide HI) (unhide HZ0) (unhide HZ1') (unhide HZ2') rfl (by decide) u11 k _ rfl (unhide HRA) ⟨wr.heap.size + 1, 0, none⟩ 1 1 (bRo r).vals rfl rfl (unhide hnw) (vals_one _) (unhide hl1) (unhide hl2) (unhide hsA) ?_; intro v' W' hown' hgrow hnil hloc; obtain ⟨hu1, hu2⟩ := unhide hupd v' W' hown' hgrow; have HU := hide hu1; clear hown' hgrow hnil hloc hu1)
      refine (unhide dB W').mono ?_
      rintro e wx ⟨rfl, hw⟩
      rw [hw]
      clear hw wx dB hld hld2
      cases b1 <;> cases b2 <;> cases b3
      all_goals
        go_wp2_with fail
        refine ⟨⟨k + 1, by simp, by omega, by rw [unhide HIN]; rfl, unhide HU⟩, by simp [intOf]; omega⟩
    · have hkn : k = N1 := by omega
      subst hkn
      obtain ⟨hrow, hbk⟩ := unhide hrel
      rw [List.take_of_length_le (by rw [← unhide HN1]; omega)] at hrow
      rw [List.take_of_length_le (by rw [← unhide HN1]; omega)]
      have hbwr : Below w.heap.size w wr := (unhide HB5).trans (hbk.mono (unhide HB5).size)
      have hV6 := (unhide HV5).below hbk
      have hdr : w1.heap.size < wr.heap.size := Nat.lt_of_lt_of_le (unhide HD5) hbk.size
      obtain ⟨p7, c7, w7, hap, hR7, hp7, hb7⟩ := run_append_rows wr 22 pr cr R1 (unhide HCR) ((unhide HI1).below hbwr) (by have := (unhide H1).len; omega)
      rw [← unhide HN1] at hap
      have hV7 := hV6.below hb7
      have hn7 : 0 + 7 * R0.length ≤ 68719476736 := unhide HN4
      have dA := hide (apply_view (cR := c7) hV7 (by omega) (by have := (unhide H1).len; omega) hR7 (fun q h => by have := hp7 q h; omega) (unhide H1).acc (unhide H1).amt)
      rw [← unhide HN1] at dA
      have hbal7 := ((unhide HBAL).keep (W' := wr) (fun g hg => hbk.block g (row_block (unhide HBAL).row hg).2.1))
      have hbal7' := hbal7.keep (W' := w7) (fun g hg => hb7.block g (row_block hbal7.row hg).2.1)
      have hrow7 := row_keep hrow (W' := w7) (fun g hg => hb7.block g (row_block hrow hg).2.1)
      have hB7 : Below w.heap.size w w7 := hbwr.trans (hb7.mono hbwr.size)
      have hd7 : w1.heap.size < w7.heap.size := Nat.lt_of_lt_of_le hdr hb7.size
      have hdB : w1.heap.size < w4.heap.size := unhide HD4
      have HAP := hide hap; have HV7 := hide hV7; have HBAL7 := hide hbal7'; have HROW7 := hide hrow7; have HB7 := hide hB7; have HD7 := hide hd7; have HR7 := hide (And.intro hR7 hp7)
      have hz5 : Hid (w.heap.size < w1.heap.size) := HZ1
      have hl5 := (unhide HL5)
      have hl0 := (unhide H0).len
      clear hap hV7 hV6 hbal7 hbal7' hrow hrow7 hB7 hd7 hR7 hp7 hbwr hbk hb7 hdr hrel
      go_wp2_with (at_builtin; refine wpList_append_run rfl _ _ 22 rfl _ _ _ _ rfl rfl (unhide HAP) ?_)
      refine (unhide dA).mono ?_
      rintro e w8 hO
      rcases hO with ⟨hno, ⟨x, rfl, hx⟩, hb8⟩ | ⟨hok1, rfl, mo8, mr8, hV8, hst8⟩
      · have hV8 := (unhide HV7).below hb8
        have dS := hide (state_view hV8 hn7)
        have hbal8 := (unhide HBAL7).keep (W' := w8) (fun g hg => hb8.block g (row_block (unhide HBAL7).row hg).2.1)
        have hB8 : Below w.heap.size w w8 := (unhide HB7).trans (hb8.mono (unhide HB7).size)
        have hxb : (x != 0) = true := by rcases hx with rfl | rfl <;> rfl
        have hxb2 : (x == 0) = false := by rcases hx with rfl | rfl <;> rfl
        have HBAL8 := hide hbal8; have HB8 := hide hB8
        clear hb8 hV8 hbal8 hB8 hno hx dA
        go_wp2_with fail
        refine (unhide dS).mono ?_
        rintro e w9 ⟨v9, hs9, rfl, hbal9, hlen9, hb9⟩
        have hbal9' := (unhide HBAL8).keep (W' := w9) (fun g hg => hb9.block g (row_block (unhide HBAL8).row hg).2.1)
        have hsame := hbal9'.same hbal9 (fun k => rfl)
        have hr9 := hbal9.row
        rw [← hsame.1, ← hsame.2] at hr9
        have dE := hide (same_any (by rw [srt_len]) (by omega) hbal9'.row hr9)
        have HB9 := hide ((unhide HB8).trans (hb9.mono (unhide HB8).size))
        clear hbal9 hlen9 hb9 hbal9' hsame hr9 dS
        go_wp2_with fail
        refine (unhide dE).mono ?_
        rintro e wx ⟨rfl, m, hw⟩
        have HBX : Hid (Below w.heap.size w wx) := by rw [hw]; exact below_drewN (unhide HB9) m
        clear hw
        go_wp2_with fail
        go_ret
        exact ⟨rfl, unhide HBX⟩
      have hB8 : Below w.heap.size w w8 := (unhide HB7).trans (hst8.fr.toBelow (unhide HB7).size (unhide hnw4))
      have hnw8 : Hid (∀ k, Blk w1.heap.size mo8 mr8 k → w.heap.size ≤ k) := fun k hk => by
        have h1 := (unhide HB7).size
        rcases hst8.new k hk with hk | hk
        · exact unhide hnw4 k hk
        · omega
      have hrow8 := hst8.row (unhide HV7).at' (unhide HROW7) (unhide HD5)
      have hbal8 : Bal w8 w4.heap.size (rws R0) v5 hs5 := ⟨(unhide HBAL7).nd, (unhide HBAL7).mem, hst8.row (unhide HV7).at' (unhide HBAL7).row (unhide HD4)⟩
      have hlm : (R1.map bRo).length = k := by rw [List.length_map]; exact (unhide HN1).symm
      obtain ⟨p9, c9, hv9, hR9, hp9⟩ := own_rows hlm hrow8
      have hl1 := (unhide H1).len
      have dA2 := hide (apply_view (cR := c9) hV8 (by omega) (by rw [hlm]; omega) hR9 (fun q h => by have := hp9 q h; have := unhide HD5; omega) (unhide H1).back.acc (unhide H1).back.amt)
      rw [hlm] at dA2
      have hownB : ∀ q, own (rws R0 ++ rws R1 ++ rws (R1.map bRo)) q = own (rws R0) q := fun q => by rw [rws_back hok1]; exact own_back _ _ q
      have hgood : Hid ((∀ r ∈ R1.map bRo, okRow r) ∧ fits (rws R0 ++ rws R1 ++ rws (R1.map bRo))) := by
        refine ⟨ok_back hok1, ?_⟩
        unfold fits
        rw [DEB_same hownB, CRE_same hownB]
        exact (unhide HV5).ok
      have hroll : inB R1 name = false → roll ups (rws R0 ++ rws R1) name.data.toList = G := fun h => by
        rw [roll_append, roll_else h, unhide HG]
        omega
      have dR2 := hide (roll_any name (by unfold maxLen; omega) _ _ _ _ _ _ _ _ w8 hV8.at')
      have HV8 := hide hV8; have HB8 := hide hB8; have HBAL8 := hide hbal8; have HOB := hide hownB
      subst hv9
      clear hB8 hrow8 hbal8 hR9 hp9 hownB hV8 dA hst8
      obtain ⟨bi, hbi⟩ : ∃ x, x = inB R1 name := ⟨_, rfl⟩
      rw [← hbi] at hroll ⊢
      have HROLL := hide hroll
      clear hroll hbi
      cases bi
      · rw [unhide HROLL rfl] at dR2
        clear HROLL
        go_wp2_with fail
        refine (unhide dR2).mono ?_
        rintro e wx ⟨rfl, hw⟩
        rw [hw]
        clear hw wx dR2
        have hgg : (G != G) = false := by simp
        go_wp2_with fail
        refine (unhide dA2).mono ?_
        rintro e w9 hO
        rcases hO with ⟨hno, _⟩ | ⟨_, rfl, mo9, mr9, hV9, hst9⟩
        · exact absurd (unhide hgood) hno
        have hn9 : 0 + 7 * R0.length + 7 * R1.length + 7 * (R1.map bRo).length ≤ 68719476736 := by rw [hlm]; omega
        have hB9 : Below w.heap.size w w9 := (unhide HB8).trans (hst9.fr.toBelow (unhide HB8).size (unhide hnw8))
        have hbal9 : Bal w9 w4.heap.size (rws R0) v5 hs5 := ⟨(unhide HBAL8).nd, (unhide HBAL8).mem, hst9.row (unhide HV8).at' (unhide HBAL8).row (unhide HD4)⟩
        have dS := hide (state_view hV9 hn9)
        have HBAL9 := hide hbal9; have HB9 := hide hB9
        clear hV9 hst9 hB9 hbal9 hn9 dA2
        go_wp2_with fail
        refine (unhide dS).mono ?_
        rintro e w10 ⟨v10, hs10, rfl, hbal10, hlen10, hb10⟩
        have hbal9' := (unhide HBAL9).keep (W' := w10) (fun g hg => hb10.block g (row_block (unhide HBAL9).row hg).2.1)
        have hsame := hbal9'.same hbal10 (fun q => (unhide HOB q).symm)
        have hr10 := hbal10.row
        rw [← hsame.1, ← hsame.2] at hr10
        have dE := hide (same_any (by rw [srt_len]) (by omega) hbal9'.row hr10)
        have HB10 := hide ((unhide HB9).trans (hb10.mono (unhide HB9).size))
        clear hbal10 hlen10 hb10 hbal9' hsame hr10 dS
        go_wp2_with fail
        refine (unhide dE).mono ?_
        rintro e wx ⟨rfl, m, hw⟩
        have HBX : Hid (Below w.heap.size w wx) := by rw [hw]; exact below_drewN (unhide HB10) m
        clear hw
        go_wp2_with fail
        go_ret
        exact ⟨rfl, unhide HBX⟩
      · clear HROLL dR2
        go_wp2_with fail
        refine (unhide dA2).mono ?_
        rintro e w9 hO
        rcases hO with ⟨hno, _⟩ | ⟨_, rfl, mo9, mr9, hV9, hst9⟩
        · exact absurd (unhide hgood) hno
        have hn9 : 0 + 7 * R0.length + 7 * R1.length + 7 * (R1.map bRo).length ≤ 68719476736 := by rw [hlm]; omega
        have hB9 : Below w.heap.size w w9 := (unhide HB8).trans (hst9.fr.toBelow (unhide HB8).size (unhide hnw8))
        have hbal9 : Bal w9 w4.heap.size (rws R0) v5 hs5 := ⟨(unhide HBAL8).nd, (unhide HBAL8).mem, hst9.row (unhide HV8).at' (unhide HBAL8).row (unhide HD4)⟩
        have dS := hide (state_view hV9 hn9)
        have HBAL9 := hide hbal9; have HB9 := hide hB9
        clear hV9 hst9 hB9 hbal9 hn9 dA2
        go_wp2_with fail
        refine (unhide dS).mono ?_
        rintro e w10 ⟨v10, hs10, rfl, hbal10, hlen10, hb10⟩
        have hbal9' := (unhide HBAL9).keep (W' := w10) (fun g hg => hb10.block g (row_block (unhide HBAL9).row hg).2.1)
        have hsame := hbal9'.same hbal10 (fun q => (unhide HOB q).symm)
        have hr10 := hbal10.row
        rw [← hsame.1, ← hsame.2] at hr10
        have dE := hide (same_any (by rw [srt_len]) (by omega) hbal9'.row hr10)
        have HB10 := hide ((unhide HB9).trans (hb10.mono (unhide HB9).size))
        clear hbal10 hlen10 hb10 hbal9' hsame hr10 dS
        go_wp2_with fail
        refine (unhide dE).mono ?_
        rintro e wx ⟨rfl, m, hw⟩
        have HBX : Hid (Below w.heap.size w wx) := by rw [hw]; exact below_drewN (unhide HB10) m
        clear hw
        go_wp2_with fail
        go_ret
        exact ⟨rfl, unhide HBX⟩
end Go.Proofs.YtgohddimnphbkaaDoor
