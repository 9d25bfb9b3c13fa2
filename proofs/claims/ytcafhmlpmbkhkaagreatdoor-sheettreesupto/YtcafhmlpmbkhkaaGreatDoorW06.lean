import Derived.Test.YtcafhmlpmbkhkaaGreatDoorW05
/- The grid's widths (137). -/
namespace Go.Proofs.YtcafhmlpmbkhkaaGreatDoor
open Go Go.Shelf Go.ChangeShapes Go.WideShapes Go.ChangeAt Go.RowKit Go.Maps
set_option linter.unusedVariables false
set_option linter.unusedSimpArgs false
/-- numbers -/
def kI : Kd Int := ⟨fun x => [.int .i64 x], 1, 33, 3, 8⟩
theorem kI_ok : KdOK kI := kd_ok (fun _ => rfl) (by decide) (fun x u hu => by simp [kI] at hu; subst hu; rfl) Tryz.underlying33 (z := .int .i64 0) (by kernel_rfl) rfl (by decide)
theorem run_mk (w : World) (t e : TypeId) {z : Value} {s b : Nat} (ht : Tryz.prog.underlying t = some (.slice e)) (hi : (Tryz.prog.info? e).map (fun i => (i.zero, i.size, i.bytes)) = some (some z, s, b)) (n : Nat) (hb : b * n ≤ 281474976710656) (hn : n ≤ 70000000000000) :
    (Instr.makeSlice t (.int .i64 (n : Int)) (.int .i64 (n : Int))).run Tryz.prog w = .ok (.slice (some ⟨w.heap.size, 0, none⟩) n n) (w.alloc (.cells (madeCells z.cells (n * s)) e)) := by
  obtain ⟨i, h1, h2, h3, h4⟩ := info_parts hi
  have hb' : (i.bytes : Int) * (n : Int) ≤ 281474976710656 := by
    have h : ((i.bytes * n : Nat) : Int) ≤ 281474976710656 := by rw [h4]; omega
    rwa [Int.natCast_mul] at h
  have := run_make (P := Tryz.prog) w t e i z ht h1 h2 .i64 .i64 n n (by omega) (by omega) hb' (by omega)
  simp only [Int.toNat_natCast] at this
  rw [this, h3]
/-- the widths of m columns -/
def wds (m : Nat) (f : Nat → Nat) : List Int := (List.range m).map fun c => (f c : Int)
theorem wds_len (m : Nat) (f : Nat → Nat) : (wds m f).length = m := by simp [wds]
theorem kI_flat (L : List Int) : kI.flat L = L.map (Value.int .i64) := by
  induction L with
  | nil => rfl
  | cons a L ih => rw [List.map_cons, ← ih]; rfl
theorem kI_wds (m : Nat) (f : Nat → Nat) : kI.flat (wds m f) = (List.range m).map fun c => Value.int .i64 (f c : Int) := by
  rw [kI_flat, wds, List.map_map]
  rfl
theorem wds_get (m : Nat) (f : Nat → Nat) (c : Nat) (h : c < m) : (kI.flat (wds m f))[c]? = some (.int .i64 (f c : Int)) := by
  have e := kI_wds m f
  rw [e]
  simp [h]
theorem wds_set (m : Nat) (f g : Nat → Nat) (c : Nat) (h : ∀ k, k ≠ c → g k = f k) : (kI.flat (wds m f)).set c (.int .i64 (g c : Int)) = kI.flat (wds m g) := by
  have e := kI_wds m
  rw [e, e]
  apply List.ext_getElem?
  intro k
  rw [List.getElem?_set]
  by_cases hk : c = k
  · subst hk
    rw [if_pos rfl]
    by_cases hm : c < m
    · simp [hm]
    · simp [hm]
  · rw [if_neg hk, List.getElem?_map, List.getElem?_map]
    by_cases hm : k < m
    · rw [List.getElem?_range hm]
      simp only [Option.map_some]
      rw [h k (fun e => hk e.symm)]
    · simp [hm]
theorem wds_zero (m : Nat) : List.replicate m (Value.int .i64 0) = kI.flat (wds m fun _ => 0) := by
  rw [kI_wds]
  induction m with
  | zero => rfl
  | succ m ih => rw [List.range_succ, List.map_append, ← ih, List.replicate_succ']; rfl
/-- the widths behind j cells of the row k -/
def wmid (R : List (List Tx)) (k j : Nat) (c : Nat) : Nat := if c < j then wid (R.take (k + 1)) c else wid (R.take k) c
theorem wmid_zero (R : List (List Tx)) (k : Nat) : wmid R k 0 = wid (R.take k) := by funext c; simp [wmid]
theorem wmid_end (R : List (List Tx)) (k : Nat) (r : List Tx) (h : R[k]? = some r) : wmid R k r.length = wid (R.take (k + 1)) := by
  funext c
  unfold wmid
  by_cases hc : c < r.length
  · rw [if_pos hc]
  · rw [if_neg hc, wid_take R k r h, List.getD_eq_getElem?_getD, List.getElem?_eq_none (by omega)]
    simp
theorem wmid_step (R : List (List Tx)) (k j : Nat) (r : List Tx) (x : Tx) (h : R[k]? = some r) (hx : r[j]? = some x) : wmid R k (j + 1) j = max (wmid R k j j) x.length ∧ ∀ c, c ≠ j → wmid R k (j + 1) c = wmid R k j c := by
  refine ⟨?_, fun c hc => ?_⟩
  · unfold wmid
    rw [if_pos (by omega), if_neg (by omega), wid_take R k r h, List.getD_eq_getElem?_getD, hx]
    rfl
  · unfold wmid
    by_cases h1 : c < j
    · rw [if_pos (by omega), if_pos h1]
    · rw [if_neg (by omega), if_neg h1]
/-- numbers in a block of the call's own -/
structure WdAt (w : World) (m : Nat) (f : Nat → Nat) (g c : Nat) (wr : World) : Prop where
  own : wr.ownsRow w.heap.size 3 1 (.slice (some ⟨g, 0, none⟩) m c) m (kI.flat (wds m f))
  bel : Below w.heap.size w wr
theorem WdAt.set {w : World} {m : Nat} {f h : Nat → Nat} {g c : Nat} {wr : World} (a : WdAt w m f g c wr) (j : Nat) (hh : ∀ k, k ≠ j → h k = f k) : WdAt w m h g c (wr.setCell ⟨g, j, none⟩ (.int .i64 (h j : Int))) := by
  have hg : w.heap.size ≤ g := (a.own.lt g rfl).1
  refine ⟨?_, a.bel.setCell (p := ⟨g, j, none⟩) hg _⟩
  have := (a.own.stored j (.int .i64 (h j : Int))).1
  rwa [wds_set m f h j hh] at this
def WidOut (w : World) (m : Nat) (R : List (List Tx)) (e : Ending) (w' : World) : Prop := ∃ g c, e = .returned (.slice (some ⟨g, 0, none⟩) m c) ∧ WdAt w m (wid R) g c w'
theorem ret_max (a b : Nat) : Builtin.max2 (.int .i64 (a : Int)) (.int .i64 (b : Int)) = pure (.int .i64 ((max a b : Nat) : Int)) := by
  show (pure (.int .i64 (if (b : Int) > (a : Int) then (b : Int) else (a : Int))) : Sem Value) = _
  by_cases h : a < b
  · rw [if_pos (by omega)]
    congr 2
    omega
  · rw [if_neg (by omega)]
    congr 2
    omega
theorem run_max (a b : Nat) (w : World) : (Builtin.max_ #[3, 3] 3 #[.int .i64 (a : Int), .int .i64 (b : Int)]).run Tryz.prog w = .ok (.int .i64 ((max a b : Nat) : Int)) w := by
  unfold Builtin.max_
  simp only [List.foldlM, ret_max]
  rfl
set_option maxRecDepth 100000 in
set_option maxHeartbeats 4000000 in
theorem widths_any {B : Nat} {w : World} {d : Nat} {S : List Int} {R : List (List Tx)} (h0 : Gr B w d S R) (hm : S.length ≤ 1048576) (hR : ∀ r ∈ R, r.length ≤ S.length) (hx : ∀ r ∈ R, ∀ x ∈ r, x.length ≤ 1099511627776) (hn : R.length ≤ 1099511627776) :
    Calls Tryz.prog 137 #[.pointer (some ⟨d, 0, none⟩)] w (WidOut w S.length R) := by
  obtain ⟨ps, cs, pr, cr, L, h⟩ := h0
  have hdlt : d < w.heap.size := (Array.getElem?_eq_some_iff.1 h.cell).1
  obtain ⟨m, hS⟩ : ∃ m, m = S.length := ⟨_, rfl⟩
  obtain ⟨n, hRn⟩ : ∃ n, n = R.length := ⟨_, rfl⟩
  rw [← hS] at hm hR ⊢
  have hc := h.cell
  rw [← hS, ← hRn] at hc
  have c0 : w.cell? ⟨d, 0, none⟩ = some (.slice ps m cs) := by rw [cell_at hc]; rfl
  have hmk : ∀ W : World, (Instr.makeSlice 33 (.int .i64 (m : Int)) (.int .i64 (m : Int))).run Tryz.prog W = .ok (.slice (some ⟨W.heap.size, 0, none⟩) m m) (W.alloc (.cells (madeCells (Value.int .i64 0).cells (m * 1)) 3)) := fun W => run_mk (z := .int .i64 0) (s := 1) (b := 8) W 33 3 Tryz.underlying33 (by kernel_rfl) m (by omega) (by omega)
  obtain ⟨O, hO⟩ : ∃ O, O = Obj.cells (madeCells (Value.int .i64 0).cells (m * 1)) 3 := ⟨_, rfl⟩
  rw [← hO] at hmk
  have A0 : WdAt w m (wmid R 0 0) w.heap.size m (w.alloc O) := by
    refine ⟨?_, bal (Below.refl _ _) _⟩
    have hs : (madeCells (Value.int .i64 0).cells (m * 1)).size = m * 1 := by rw [size_madeCells]
    have ho := World.ownsRow_lit (base := w.heap.size) (e := 3) (size := 1) w (madeCells (Value.int .i64 0).cells (m * 1)) m (Nat.le_refl _) (by unfold maxLen; omega) hs
    rw [← hO] at ho
    have e : (madeCells (Value.int .i64 0).cells (m * 1)).toList = kI.flat (wds m (wmid R 0 0)) := by
      rw [wmid_zero, Nat.mul_one]
      show (madeCells #[.int .i64 0] m).toList = _
      rw [toList_madeCells_one, wds_zero]
      rfl
    rwa [e] at ho
  have c1 : (w.alloc O).cell? ⟨d, 1, none⟩ = some (.slice pr n cr) := by rw [cell_at ((A0.bel.block d hdlt).trans hc)]; rfl
  have HA0 := hide A0; have H := hide h; have HS := hide hS; have HN := hide hRn; have HR := hide hR; have HX := hide hx
  have hnn : n ≤ 1099511627776 := by omega
  clear A0 hc h hR hx hO hdlt
  clear hS hRn
  go_enter Tryz.func137, Tryz.ntmps137
  go_wp2_with fail
  go_loopw [19] (fun i wr => ∃ (k : Nat) (K : Int), k ≤ n ∧ i = .int .i64 K ∧ K = (k : Int) ∧ Hid (WdAt w m (wmid R k 0) w.heap.size m wr)) (fun i _ => ((n : Int) - intOf i).toNat)
  case atStart => exact ⟨0, 0, by omega, rfl, rfl, unhide HA0⟩
  case round =>
    obtain ⟨wo, rfl⟩ : ∃ x, x = wr := ⟨wr, rfl⟩
    obtain ⟨k, K, hk, rfl, hK, HA⟩ := hrel
    by_cases hlt : k < n
    · have hI : K < (n : Int) := by omega
      have hkR : k < R.length := by have := unhide HN; omega
      obtain ⟨r, hr⟩ : ∃ r, R[k]? = some r := ⟨R[k], List.getElem?_eq_getElem hkR⟩
      obtain ⟨s, hs⟩ : ∃ s, L[k]? = some s := ⟨L[k]'(by rw [(unhide H).len]; exact hkR), List.getElem?_eq_getElem _⟩
      have hri := (unhide H).row k s r hs hr
      have hkL : k < L.length := by rw [(unhide H).len]; exact hkR
      obtain ⟨gr, epr⟩ : ∃ g, pr = some ⟨g, 0, none⟩ := by
        obtain ⟨g, c', hv⟩ := own_open (unhide H).own (by omega)
        injection hv with h1
        exact ⟨g, h1⟩
      subst epr
      have hgr : gr < w.heap.size := ((unhide H).own.lt gr rfl).2
      have ld1 : wo.cell? ⟨gr, k, none⟩ = some (.slice s.p s.n s.c) := by
        refine keep1 (unhide HA).bel hgr ?_
        have h1 := (unhide H).own.cellAt k (by omega)
        rw [h1]
        have h2 := flat_get kS_ok L k hkL 0 (by decide)
        have h3 : L[k] = s := by rw [List.getElem?_eq_getElem hkL] at hs; exact Option.some.inj hs
        rw [h3] at h2
        simpa [kS] using h2
      obtain ⟨sp, sn, sc⟩ := s
      have hsn : sn = r.length := hri.n
      obtain ⟨q, hq⟩ : ∃ q, q = r.length := ⟨_, rfl⟩
      rw [← hq] at hsn
      subst hsn
      have hqm : sn ≤ m := by
        have := unhide HR r (List.mem_of_getElem? hr)
        omega
      have HRI := hide hri; have HR1 := hide hr; have HQ := hide hq
      have HK := hide hK
      have hK0 : 0 ≤ K := by omega
      have hKt : K.toNat = k := by omega
      have hsp : ∀ (j : Nat) (hj : j < sn), ∃ b o x, sp = some ⟨b, o, none⟩ ∧ r[j]? = some x ∧ w.cell? ⟨b, o + j, none⟩ = some (.string (txB x)) ∧ b < w.heap.size := fun j hj => by
        obtain ⟨b, o, e, hb, hrr⟩ := hri.lies.2 j (by omega)
        refine ⟨b, o, r[j]'(by omega), e, List.getElem?_eq_getElem _, ?_, hb⟩
        have := hrr 0 (.string (txB (r[j]'(by omega)))) rfl
        simpa [kT] using this
      have HSP := hide hsp
      clear hri hr hs hq hsp hK hkR hkL hlt
      go_wp2_with fail
      go_loopw [25] (fun i wr => ∃ (j : Nat) (J : Int), j ≤ sn ∧ i = .int .i64 J ∧ J = (j : Int) ∧ Hid (WdAt w m (wmid R k j) w.heap.size m wr)) (fun i _ => ((sn : Int) - intOf i).toNat)
      case atStart => exact ⟨0, 0, by omega, rfl, rfl, unhide HA⟩
      case round =>
        obtain ⟨wi, rfl⟩ : ∃ x, x = wr := ⟨wr, rfl⟩
        obtain ⟨j, J, hj, rfl, hJ, HB⟩ := hrel
        clear ld1 HA
        by_cases hjl : j < sn
        · have hJl : J < (sn : Int) := by omega
          have hJm : J < (m : Int) := by omega
          have hJ0 : 0 ≤ J := by omega
          have hJt : J.toNat = j := by omega
          obtain ⟨b, o, x, esp, hxr, hcl, hbl⟩ := unhide HSP j hjl
          subst esp
          have ld2 : wi.cell? ⟨b, o + j, none⟩ = some (.string (txB x)) := keep1 (unhide HB).bel hbl hcl
          obtain ⟨st1, st2⟩ := wmid_step R k j r x (unhide HR1) hxr
          have ld3 : wi.cell? ⟨w.heap.size, j, none⟩ = some (.int .i64 (wmid R k j j : Int)) := by
            rw [(unhide HB).own.cellAt j (by omega)]
            exact wds_get m _ j (by omega)
          have fr3 : wi.frozen? ⟨w.heap.size, j, none⟩ = false := (unhide HB).own.frozenAt j
          obtain ⟨T, hT⟩ : ∃ T, T = txB x := ⟨_, rfl⟩
          have hTl : T.size = x.length := by rw [hT, txB_len]
          rw [← hT] at ld2
          obtain ⟨a1, ha1⟩ : ∃ a, a = wmid R k j j := ⟨_, rfl⟩
          obtain ⟨a2, ha2⟩ : ∃ a, a = T.size := ⟨_, rfl⟩
          rw [← ha1] at ld3
          have hmx := run_max a1 a2
          have HST : Hid (WdAt w m (wmid R k (j + 1)) w.heap.size m (wi.setCell ⟨w.heap.size, j, none⟩ (.int .i64 ((max a1 a2 : Nat) : Int)))) := by
            have := (unhide HB).set j st2
            rw [st1, ← hTl, ← ha1, ← ha2] at this
            exact this
          obtain ⟨a3, ha3⟩ : ∃ a, a = max a1 a2 := ⟨_, rfl⟩
          rw [← ha3] at hmx HST
          clear st1 st2 hT hTl ha1 hcl hxr hbl ha3
          have hsz : (T.size : Int) = (a2 : Int) := by rw [ha2]
          clear ha2
          have HJ := hide hJ
          clear hJ
          go_wp2_with fail
          exact ⟨⟨j + 1, J + 1, by omega, by go_num, by have := unhide HJ; omega, unhide HST⟩, by simp [intOf]; omega⟩
        · have hJl : ¬ J < (sn : Int) := by omega
          have HE : Hid (WdAt w m (wmid R (k + 1) 0) w.heap.size m wi) := by
            have ej : j = sn := by omega
            have h1 := unhide HB
            rw [ej, unhide HQ, wmid_end R k r (unhide HR1), ← wmid_zero] at h1
            exact h1
          clear HB hJ hj hjl
          go_wp2_with fail
          exact ⟨⟨k + 1, K + 1, by have := unhide HK; omega, by go_num, by have := unhide HK; omega, unhide HE⟩, by have := unhide HK; simp [intOf]; omega⟩
    · have hI : ¬ K < (n : Int) := by omega
      have HF : Hid (WidOut w m R (.returned (.slice (some ⟨w.heap.size, 0, none⟩) m m)) wo) := by
        refine ⟨_, _, rfl, ?_⟩
        have ek : k = R.length := by have := unhide HN; omega
        have h1 := unhide HA
        rw [ek, wmid_zero, List.take_length] at h1
        exact h1
      clear HA hK
      go_wp2_with fail
      go_ret
      exact unhide HF
end Go.Proofs.YtcafhmlpmbkhkaaGreatDoor
