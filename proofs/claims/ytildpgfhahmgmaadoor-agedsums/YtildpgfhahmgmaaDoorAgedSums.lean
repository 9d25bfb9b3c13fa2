import Derived.Test.YtildpgfhahmgmaaDoorOpD
import Derived.Test.YtildpgfhahmgmaaDoorQyB
import Derived.Test.YtildpgfhahmgmaaDoorStB
import Derived.Test.YtildpgfhahmgmaaDoorStE
import Derived.Test.YtildpgfhahmgmaaDoorDsA
import Derived.Test.YtildpgfhahmgmaaDoorTie
import Derived.Test.YtildpgfhahmgmaaDoorCards
import Derived.ShutString
import Derived.ChangeMaps5
import Derived.ChangeOld
import Derived.SizedLaws
import Derived.Handy
import Derived.Lay
import Derived.Lib.LaidTab
import Derived.Stop.LaidErr
import Derived.SevenTiedAt
import Derived.Deep.DeepHandedRow
import Derived.Deep.DeepWitnessRowRef
/- A list of numbers as an argument, opened. -/
namespace Go.Proofs.YtildpgfhahmgmaaDoor
open Go Go.Shelf Go.ChangeShapes Go.WideShapes Go.ChangeAt Go.RowKit Go.Maps Go.Sort Go.Deep
set_option linter.unusedVariables false
theorem bytes3 : Tryd.prog.bytesOf 3 = 8 := by kernel_rfl
section
variable {H : Type} {enc : TypeId × Value → H} {W : World}
set_option maxRecDepth 100000 in
theorem open_nums {base : Nat} {v : Value} {d : DataW H} {p : List MemPlace} (hok : Value.okWide Tryd.prog W .any base 57 v) (h : ∃ fuel, DataW.trod enc Tryd.prog W 0 (fun _ => true) true fuel 57 v.cells.toList = some (d, p)) (hw : ∀ n ∈ d.weights Tryd.prog 57, n ≤ reachBytes) :
    ∃ (pm : Option Addr) (c : Nat) (M : List Int), v = .slice pm M.length c ∧ M.length ≤ 17592186043904 ∧ Lies kI W pm M ∧ (pm = none → c = 0) := by
  obtain ⟨a0, len0, cap0, rfl⟩ := okWide_slice Tryd.underlying57 hok
  obtain ⟨fuel, hf⟩ := h
  rcases open_ints Tryd.underlying57 Tryd.underlying3 cells3 hf with ⟨hcs, _⟩ | ⟨a, len, cap, zs, hcs, hb, hl, hm, hz, hx, hcell, hwz⟩
  · simp [Value.cells] at hcs
    obtain ⟨rfl, rfl, rfl⟩ := hcs
    exact ⟨none, 0, [], rfl, by simp, Lies.nil _ _, fun _ => rfl⟩
  · simp [Value.cells] at hcs
    obtain ⟨rfl, rfl, rfl⟩ := hcs
    have hz' : zs.length = cap0 := by simpa using hz
    have hd : d = .slice (lits .i64 (zs.take len0)) (lits .i64 (zs.drop len0)) := (Prod.mk.inj hx).1
    have hlen : (zs.take len0).length = len0 := by rw [List.length_take]; omega
    have hle : len0 ≤ 17592186043904 := by
      have h1 := hw (((lits (H := H) .i64 (zs.take len0)).length + (lits (H := H) .i64 (zs.drop len0)).length) * Tryd.prog.bytesOf 3) (by
        rw [hd]
        simp only [DataW.weights, Tryd.underlying57]
        exact List.mem_cons_self)
      rw [bytes3] at h1
      unfold reachBytes at h1
      have h2 : (lits (H := H) .i64 (zs.take len0)).length = len0 := by simp only [lits, List.length_map]; exact hlen
      omega
    refine ⟨some a, cap0, zs.take len0, by rw [hlen], by rw [hlen]; exact hle, ⟨fun h => (by cases h), fun k hk => ?_⟩, fun h => (by cases h)⟩
    rw [hlen] at hk
    have hs : a.spot = none := by simpa [Addr.add] using World.cell?_spot (hcell 0 (by omega))
    obtain ⟨b, off, sp⟩ := a
    simp only at hs
    subst hs
    have hck := hcell k (by omega)
    rw [Addr.add_mid] at hck
    refine ⟨b, off, rfl, World.block_lt_of_cell? W _ hck, fun j u hu => ?_⟩
    have hj : j = 0 := by
      have := (List.getElem?_eq_some_iff.1 hu).1
      simp [kI] at this
      exact this
    subst hj
    have e1 : off + k * kI.s + 0 = off + k := by show off + k * 1 + 0 = _; omega
    rw [e1, hck]
    have e2 : zs.getD k 0 = (zs.take len0)[k]'(by omega) := by
      rw [List.getElem_take, List.getD_eq_getElem?_getD, List.getElem?_eq_getElem (by omega)]
      rfl
    rw [e2]
    exact hu
end
end Go.Proofs.YtildpgfhahmgmaaDoor
/- The laws' place (32), sum (31), the document's IsDay (33). -/
namespace Go.Proofs.YtildpgfhahmgmaaDoor
open Go Go.Shelf Go.ChangeShapes Go.WideShapes Go.ChangeAt Go.RowKit Go.Maps
set_option linter.unusedVariables false
def plcS (n : Int) : Nat := if n ≤ 0 then 0 else if n ≤ 30 then 1 else if n ≤ 60 then 2 else if n ≤ 90 then 3 else 4
theorem plcS_le (n : Int) : plcS n ≤ 4 := by unfold plcS; (repeat' split) <;> omega
set_option maxRecDepth 100000 in
set_option maxHeartbeats 4000000 in
theorem place_any {n : Int} (h1 : -1000000000 ≤ n) (h2 : n ≤ 1000000000) (w : World) : Calls Tryd.prog 32 #[.int .i64 n] w fun e w' => e = .returned (.int .i64 (plcS n : Int)) ∧ w' = w := by
  go_enter Tryd.func32, Tryd.ntmps32
  go_wp2_with fail
  go_loopw [0, 3] (fun v0 v3 wr => ∃ (k : Nat) (x : Int), v3 = .int .i64 k ∧ v0 = .int .i64 x ∧ k ≤ 4 ∧ Hid (x = n - 30 * k ∧ (k = 0 ∨ 30 < x + 60 ∧ 0 < k) ∧ wr = w) ∧ (-1000000200 ≤ x ∧ x ≤ 1000000000)) (fun _ v3 _ => 4 - (intOf v3).toNat)
  case atStart => exact ⟨0, n, rfl, rfl, by omega, ⟨by omega, .inl rfl, rfl⟩, by omega, by omega⟩
  case round =>
    obtain ⟨k, x, rfl, rfl, hk, hrel, hx1, hx2⟩ := hrel
    by_cases hp : 0 < x
    · by_cases hk4 : k < 4
      · have HR := hide (unhide hrel)
        clear hrel
        go_wp2_with fail
        have hq := unhide HR
        exact ⟨⟨k + 1, x - 30, by simp, rfl, by omega, ⟨by push_cast; omega, .inr ⟨by omega, by omega⟩, hq.2.2⟩, by omega, by omega⟩, by simp [intOf]; omega⟩
      · have HR := hide (unhide hrel)
        have hk5 : ¬ ((k : Int) < 4) := by omega
        clear hrel
        go_wp2_with fail
        go_ret
        obtain ⟨q1, q2, q3⟩ := unhide HR
        refine ⟨?_, q3⟩
        have e : plcS n = k := by
          unfold plcS
          (repeat' split) <;> omega
        rw [e]
        rfl
    · have HR := hide (unhide hrel)
      clear hrel
      go_wp2_with fail
      go_ret
      obtain ⟨q1, q2, q3⟩ := unhide HR
      refine ⟨?_, q3⟩
      have e : plcS n = k := by
        unfold plcS
        (repeat' split) <;> omega
      rw [e]
      rfl
theorem isDay33_any (d : Int) (w : World) : Calls Tryd.prog 33 #[.int .i64 d] w fun e w' => e = .returned (.bool (dayB d)) ∧ w' = w := by
  by_cases h1 : d ≥ 1
  · by_cases h2 : d ≤ 3652059
    · have e : dayB d = true := by unfold dayB; rw [decide_eq_true h1, decide_eq_true h2]; rfl
      rw [e]
      go_enter Tryd.func33, Tryd.ntmps33
      go_wp2_with fail
      go_ret
      exact ⟨rfl, rfl⟩
    · have e : dayB d = false := by unfold dayB; rw [decide_eq_false h2, Bool.and_false]
      rw [e]
      go_enter Tryd.func33, Tryd.ntmps33
      go_wp2_with fail
      go_ret
      exact ⟨rfl, rfl⟩
  · have e : dayB d = false := by unfold dayB; rw [decide_eq_false h1, Bool.false_and]
    rw [e]
    go_enter Tryd.func33, Tryd.ntmps33
    go_wp2_with fail
    go_ret
    exact ⟨rfl, rfl⟩
set_option maxRecDepth 100000 in
set_option maxHeartbeats 4000000 in
theorem sum_any {f : Nat → Int} (h : ∀ j, j ≤ 4 → 0 ≤ f j ∧ f j ≤ 1000000000000) (w : World) : Calls Tryd.prog 31 #[ag5 f] w fun e w' => e = .returned (.int .i64 (f 0 + f 1 + f 2 + f 3 + f 4)) ∧ Below w.heap.size w w' := by
  obtain ⟨X, hX⟩ : ∃ X, X = w.alloc (obj5 f) := ⟨_, rfl⟩
  have hr0 : X.heap[w.heap.size]? = some (obj5 f) := by rw [hX]; exact heap_new _ _
  have c0 := cell5 hr0 (n := 0) (by omega); have c1 := cell5 hr0 (n := 1) (by omega); have c2 := cell5 hr0 (n := 2) (by omega); have c3 := cell5 hr0 (n := 3) (by omega); have c4 := cell5 hr0 (n := 4) (by omega)
  have hb : Below w.heap.size w X := by rw [hX]; exact (Below.refl _ _).alloc (Nat.le_refl _) _
  have HB := hide hb
  have h0 := h 0 (by omega); have h1 := h 1 (by omega); have h2 := h 2 (by omega); have h3 := h 3 (by omega); have h4 := h 4 (by omega)
  have HX : Hid (X = w.alloc (obj5 f)) := hX
  unfold obj5 at HX
  unfold ag5
  clear hX hr0 hb h
  go_enter Tryd.func31, Tryd.ntmps31
  go_upto_region 1 with fail
  rw [← unhide HX]
  clear HX
  go_wp2_with fail
  go_ret
  exact ⟨rfl, unhide HB⟩
end Go.Proofs.YtildpgfhahmgmaaDoor
/- AgedSums: what the law sums, in plain words. -/
namespace Go.Proofs.YtildpgfhahmgmaaDoor
open Go Go.Shelf Go.ChangeShapes Go.WideShapes Go.ChangeAt Go.RowKit Go.Maps
set_option linter.unusedVariables false
theorem age_plc (due t : Int) : ageOf due t = plcS (t - due) := by
  unfold ageOf plcS stepsL
  simp only [List.foldr_cons, List.foldr_nil]
  (repeat' split) <;> omega
/-- what the list's amounts of one age add up to -/
def byS (R : List Cl) (t : Int) (j : Nat) : Int := R.foldr (fun c x => (if plcS (t - c.due) = j then c.amt else 0) + x) 0
theorem byS_cons (c : Cl) (R : List Cl) (t : Int) (j : Nat) : byS (c :: R) t j = (if plcS (t - c.due) = j then c.amt else 0) + byS R t j := rfl
theorem byS_perm {R R' : List Cl} (h : R.Perm R') (t : Int) (j : Nat) : byS R t j = byS R' t j := by
  induction h with
  | nil => rfl
  | cons x _ ih => rw [byS_cons, byS_cons, ih]
  | swap x y l => rw [byS_cons, byS_cons, byS_cons, byS_cons]; omega
  | trans _ _ h1 h2 => exact h1.trans h2
theorem byS_append (R R' : List Cl) (t : Int) (j : Nat) : byS (R ++ R') t j = byS R t j + byS R' t j := by
  induction R with
  | nil => show _ = 0 + _; rw [Int.zero_add, List.nil_append]
  | cons x R ih => rw [List.cons_append, byS_cons, byS_cons, ih]; omega
theorem byS_nonneg {R : List Cl} (h : ∀ c ∈ R, 0 ≤ c.amt) (t : Int) (j : Nat) : 0 ≤ byS R t j := by
  induction R with
  | nil => exact Int.le_refl _
  | cons x R ih =>
    have h1 := h x List.mem_cons_self
    have h2 := ih (fun c hc => h c (List.mem_cons_of_mem _ hc))
    rw [byS_cons]
    split <;> omega
theorem byS_take {R : List Cl} (h : ∀ c ∈ R, 0 ≤ c.amt) (t : Int) (j i : Nat) : byS (R.take i) t j ≤ byS R t j := by
  have e := byS_append (R.take i) (R.drop i) t j
  rw [List.take_append_drop] at e
  have := byS_nonneg (R := R.drop i) (fun c hc => h c (List.mem_of_mem_drop hc)) t j
  omega
theorem byS_succ {R : List Cl} {i : Nat} (h : i < R.length) (t : Int) (j : Nat) : byS (R.take (i + 1)) t j = byS (R.take i) t j + (if plcS (t - R[i].due) = j then R[i].amt else 0) := by
  rw [List.take_succ_eq_append_getElem h, byS_append, byS_cons]
  show _ = _
  have : byS ([] : List Cl) t j = 0 := rfl
  omega
theorem byS_tel (A : List Al) (t : Int) (j : Nat) {L : List Cl} (h : ∀ c ∈ L, 0 ≤ oS A c t) : byS (L.filterMap (tel A t)) t j = L.foldr (fun c x => con (shr c (ptsOf A c.key.data.toList) t) j + x) 0 := by
  induction L with
  | nil => rfl
  | cons c L ih =>
    have h1 := h c List.mem_cons_self
    have h2 := ih (fun c hc => h c (List.mem_cons_of_mem _ hc))
    rw [List.foldr_cons, ← h2, List.filterMap_cons]
    unfold oS at h1
    unfold tel
    by_cases h3 : (shr c (ptsOf A c.key.data.toList) t).2 > 0
    · rw [if_pos h3]
      show byS (_ :: _) t j = _
      rw [byS_cons]
      have h4 : ¬ t < c.day := fun h => by
        unfold shr at h3
        rw [if_pos h] at h3
        simp at h3
      have e1 : (shr c (ptsOf A c.key.data.toList) t).1 = plcS (t - c.due) := by
        unfold shr
        rw [if_neg h4]
        exact age_plc _ _
      unfold con
      rw [e1]
      by_cases h5 : plcS (t - c.due) = j
      · rw [if_pos h5, if_pos (by rw [h5])]
      · rw [if_neg h5, if_neg (fun e => h5 (by omega))]
    · rw [if_neg h3]
      have e0 : con (shr c (ptsOf A c.key.data.toList) t) j = 0 := by
        unfold con
        split <;> omega
      rw [e0, Int.zero_add]
theorem ofC_mem {C : List Cl} {k : List UInt8} {c : Cl} (h : c ∈ ofC C k) : c ∈ C ∧ c.acc.data.toList = k := by
  unfold ofC at h
  rw [List.mem_filter] at h
  exact ⟨h.1, by simpa using h.2⟩
theorem by_at {C : List Cl} {A : List Al} {g : Int} (hG : Good C A g) (k : List UInt8) (t : Int) (j : Nat) : byS (opn C A k t) t j = atS C A k t j := by
  unfold opn atS
  split
  · exact byS_tel A t j (fun c hc => (hG.oS_bounds (ofC_mem hc).1 t).1)
  · rfl
theorem opn_mem {C : List Cl} {A : List Al} {g : Int} (hG : Good C A g) {k : List UInt8} {t : Int} {x : Cl} (h : x ∈ opn C A k t) : 1 ≤ x.amt ∧ x.acc.data.toList = k ∧ x.day ≤ t ∧ (1 ≤ t ∧ t ≤ 3652059) ∧ ∃ c ∈ C, x.due = c.due ∧ x.amt ≤ c.amt := by
  unfold opn at h
  split at h
  · next hd =>
    obtain ⟨c, hc, hx⟩ := List.mem_filterMap.1 h
    obtain ⟨hc1, hc2⟩ := ofC_mem hc
    have hb := hG.oS_bounds hc1 t
    unfold oS at hb
    unfold tel at hx
    split at hx
    · next h3 =>
      have e := Option.some.inj hx
      subst e
      have h4 : ¬ t < c.day := fun h => by
        unfold shr at h3
        rw [if_pos h] at h3
        simp at h3
      unfold dayB at hd
      rw [Bool.and_eq_true, decide_eq_true_eq, decide_eq_true_eq] at hd
      exact ⟨by show 1 ≤ (shr c (ptsOf A c.key.data.toList) t).2; omega, hc2, by show c.day ≤ t; omega, hd, c, hc1, rfl, hb.2⟩
    · cases hx
  · cases h
/-- what was invoiced up to the day -/
def mst (C : List Cl) (k : List UInt8) (t : Int) : Int := C.foldr (fun c x => (if c.acc.data.toList = k ∧ c.day ≤ t ∧ dayB t = true then c.amt else 0) + x) 0
theorem mst_cons (c : Cl) (C : List Cl) (k : List UInt8) (t : Int) : mst (c :: C) k t = (if c.acc.data.toList = k ∧ c.day ≤ t ∧ dayB t = true then c.amt else 0) + mst C k t := rfl
theorem mst_append (C D : List Cl) (k : List UInt8) (t : Int) : mst (C ++ D) k t = mst C k t + mst D k t := by
  induction C with
  | nil => show _ = 0 + _; rw [Int.zero_add, List.nil_append]
  | cons x R ih => rw [List.cons_append, mst_cons, mst_cons, ih]; omega
theorem mst_succ {C : List Cl} {i : Nat} (h : i < C.length) (k : List UInt8) (t : Int) : mst (C.take (i + 1)) k t = mst (C.take i) k t + (if C[i].acc.data.toList = k ∧ C[i].day ≤ t ∧ dayB t = true then C[i].amt else 0) := by
  rw [List.take_succ_eq_append_getElem h, mst_append, mst_cons]
  have : mst ([] : List Cl) k t = 0 := rfl
  omega
theorem mst_bounds {C : List Cl} (h : ∀ c ∈ C, 1 ≤ c.amt ∧ c.amt ≤ 1000000000) (k : List UInt8) (t : Int) : 0 ≤ mst C k t ∧ mst C k t ≤ C.length * 1000000000 := by
  induction C with
  | nil => exact ⟨Int.le_refl _, by simp [mst]⟩
  | cons x R ih =>
    have h1 := h x List.mem_cons_self
    have h2 := ih (fun c hc => h c (List.mem_cons_of_mem _ hc))
    rw [mst_cons, List.length_cons]
    push_cast
    split <;> constructor <;> omega
theorem con5 {s : Int × Int} {a : Int} (h : 0 ≤ s.2 ∧ s.2 ≤ a) : con s 0 + con s 1 + con s 2 + con s 3 + con s 4 ≤ a := by
  unfold con
  (repeat' split) <;> simp_all <;> omega
theorem ages_le {C : List Cl} {A : List Al} (k : List UInt8) (t : Int) (hd : dayB t = true) (h : ∀ c ∈ C, 0 ≤ oS A c t ∧ oS A c t ≤ c.amt) : ageS C A k t 0 + ageS C A k t 1 + ageS C A k t 2 + ageS C A k t 3 + ageS C A k t 4 ≤ mst C k t := by
  unfold ageS
  induction C with
  | nil => exact Int.le_refl _
  | cons c C ih =>
    have h1 := h c List.mem_cons_self
    have h2 := ih (fun c hc => h c (List.mem_cons_of_mem _ hc))
    rw [mst_cons]
    unfold ofC at h2 ⊢
    rw [List.filter_cons]
    by_cases hk : c.acc.data.toList = k
    · rw [if_pos (by simpa using hk)]
      simp only [List.foldr_cons]
      have h3 : con (shr c (ptsOf A c.key.data.toList) t) 0 + con (shr c (ptsOf A c.key.data.toList) t) 1 + con (shr c (ptsOf A c.key.data.toList) t) 2 + con (shr c (ptsOf A c.key.data.toList) t) 3 + con (shr c (ptsOf A c.key.data.toList) t) 4 ≤ (if c.acc.data.toList = k ∧ c.day ≤ t ∧ dayB t = true then c.amt else 0) := by
        by_cases h4 : t < c.day
        · rw [if_neg (fun h => by omega)]
          have e : shr c (ptsOf A c.key.data.toList) t = (0, 0) := by unfold shr; rw [if_pos h4]
          rw [e]
          exact con5 ⟨Int.le_refl _, Int.le_refl _⟩
        · rw [if_pos ⟨hk, by omega, hd⟩]
          exact con5 h1
      omega
    · rw [if_neg (by simpa using hk), if_neg (fun h => hk h.1), Int.zero_add]
      exact h2
theorem at_sum {C : List Cl} {A : List Al} {g : Int} (hG : Good C A g) (k : List UInt8) (t : Int) : atS C A k t 0 + atS C A k t 1 + atS C A k t 2 + atS C A k t 3 + atS C A k t 4 ≤ mst C k t ∨ dayB t = false := by
  cases hd : dayB t with
  | false => exact .inr rfl
  | true =>
    refine .inl ?_
    unfold atS
    rw [hd]
    simp only [if_true]
    exact ages_le k t hd (fun c hc => hG.oS_bounds hc t)
theorem at_nonneg {C : List Cl} {A : List Al} {g : Int} (hG : Good C A g) (k : List UInt8) (t : Int) (j : Nat) : 0 ≤ atS C A k t j := by
  rw [← by_at hG]
  exact byS_nonneg (fun c hc => by have := (opn_mem hG hc).1; omega) t j
/-- all that the law asks of what At tells -/
structure Asks (C : List Cl) (k : List UInt8) (t : Int) (f : Nat → Int) : Prop where
  nn : ∀ j, 0 ≤ f j
  le : f 0 + f 1 + f 2 + f 3 + f 4 ≤ mst C k t
  big : ∀ j, j ≤ 4 → f j ≤ 1000000000000
theorem asks_at {C : List Cl} {A : List Al} {g : Int} (hG : Good C A g) (h9 : ∀ c ∈ C, 1 ≤ c.amt ∧ c.amt ≤ 1000000000) (h5 : C.length ≤ 50) (k : List UInt8) (t : Int) : Asks C k t (atS C A k t) := by
  have h0 := at_nonneg hG k t
  have hb := mst_bounds h9 k t
  have hle : atS C A k t 0 + atS C A k t 1 + atS C A k t 2 + atS C A k t 3 + atS C A k t 4 ≤ mst C k t := by
    rcases at_sum hG k t with h | h
    · exact h
    · unfold atS
      rw [h]
      simp
      exact hb.1
  refine ⟨h0, hle, fun j hj => ?_⟩
  have a0 := h0 0; have a1 := h0 1; have a2 := h0 2; have a3 := h0 3; have a4 := h0 4
  have hx : (C.length : Int) * 1000000000 ≤ 50000000000 := by omega
  rcases Nat.lt_or_ge j 1 with h | h
  · obtain rfl : j = 0 := by omega
    omega
  rcases Nat.lt_or_ge j 2 with h' | h'
  · obtain rfl : j = 1 := by omega
    omega
  rcases Nat.lt_or_ge j 3 with h'' | h''
  · obtain rfl : j = 2 := by omega
    omega
  rcases Nat.lt_or_ge j 4 with h3 | h3
  · obtain rfl : j = 3 := by omega
    omega
  · obtain rfl : j = 4 := by omega
    omega
end Go.Proofs.YtildpgfhahmgmaaDoor
/- AgedSums (7): the walk. -/
namespace Go.Proofs.YtildpgfhahmgmaaDoor
open Go Go.Shelf Go.ChangeShapes Go.WideShapes Go.ChangeAt Go.RowKit Go.Maps
set_option linter.unusedVariables false
theorem lies_num {w : World} {b off : Nat} {D : List Int} (h : Lies kI w (some ⟨b, off, none⟩) D) {k : Nat} (hk : k < D.length) : w.cell? ⟨b, off + k, none⟩ = some (.int .i64 D[k]) := by
  obtain ⟨b', off', e, _, hr⟩ := h.2 k hk
  cases e
  have := hr 0 _ rfl
  have e2 : off + k * kI.s + 0 = off + k := by show off + k * 1 + 0 = _; omega
  rw [e2] at this
  exact this
structure Sq (W w : World) (d : Nat) (pc pa pd : Option Addr) (C : List Cl) (A : List Al) (D : List Int) : Prop where
  sv : Sv W w d pc pa C A 0
  dl : Lies kI w pd D
theorem Sq.below {W w w' : World} {d : Nat} {pc pa pd : Option Addr} {C : List Cl} {A : List Al} {D : List Int} (h : Sq W w d pc pa pd C A D) (hb : Below w.heap.size w w') : Sq W w' d pc pa pd C A D :=
  ⟨h.sv.below hb, h.dl.below hb⟩
/-- what days asks -/
theorem Mkd.dsC {W w : World} {pc pa : Option Addr} {n m : Nat} {C : List Cl} {A : List Al} (h : Mkd W w pc pa n m C A) : ∀ c ∈ C, (0 ≤ c.day ∧ c.day ≤ 1000000000) ∧ (0 ≤ c.due ∧ c.due ≤ 1000000000) := fun c hc => by
  have h1 := h.good.ok c hc
  have := h1.d1; have := h1.d2; have := h1.d3
  omega
theorem Mkd.dsA {W w : World} {pc pa : Option Addr} {n m : Nat} {C : List Cl} {A : List Al} (h : Mkd W w pc pa n m C A) : ∀ a ∈ A, 0 ≤ a.day ∧ a.day ≤ 1000000000 := fun a ha => by
  obtain ⟨_, h2, c, hc, _, h4⟩ := h.good.al a ha
  have := (h.good.ok c hc).d1
  omega
theorem Sv.days {W w : World} {d : Nat} {pc pa pm : Option Addr} {n m k cc ca cm : Nat} {C : List Cl} {A : List Al} {M : List Int} {w2 : World} (h : Sv W w d pc pa C A 0) (hk : Mkd W w2 pc pa n m C A) (hM : Lies kI W pm M) (hkn : M.length = k) (hcm : pm = none → cm = 0) (hk1 : k ≤ 17592186043904) :
    Calls Tryd.prog 27 #[.slice pc n cc, .slice pa m ca, .slice pm k cm] w fun e w' => ∃ p c N D, e = .returned (.slice p N c) ∧ D.length = N ∧ N ≤ 17592186050000 ∧ Sq W w' d pc pa p C A D := by
  refine (days_any hk.cn hk.am hkn h.lies.1 h.lies.2 (hM.below h.bel) hcm (by have := hk.n5; omega) (by rw [← hk.am]; exact hk.good.l2) hk1 hk.dsC hk.dsA).mono ?_
  rintro e w' ⟨p, c, N, D, rfl, h1, h2, h3, h4, _⟩
  exact ⟨p, c, N, D, rfl, h1, h2, h.below h4, h3⟩
/-- behind Open: what stands there for the law's inner loops -/
structure Sb (W x : World) (d : Nat) (pc pa pd pR : Option Addr) (C : List Cl) (A : List Al) (D : List Int) (R : List Cl) (b13 : Nat) (f : Nat → Int) : Prop where
  q : Sq W x d pc pa pd C A D
  g : x.heap[b13]? = some (obj5 f)
  l : Lies kC x pR R
theorem Sb.below {W x x' : World} {d : Nat} {pc pa pd pR : Option Addr} {C : List Cl} {A : List Al} {D : List Int} {R : List Cl} {b13 : Nat} {f : Nat → Int} (h : Sb W x d pc pa pd pR C A D R b13 f) (hb : Below x.heap.size x x') : Sb W x' d pc pa pd pR C A D R b13 f :=
  ⟨h.q.below hb, (hb.block _ (heap_lt h.g)).trans h.g, h.l.below hb⟩
attribute [local go_sem ↓] ld39_is st39_is
set_option maxRecDepth 100000 in
set_option maxHeartbeats 32000000 in
theorem walk_AgedSums {W : World} (hS : Stp W) {pu : Option Addr} {K cu : Nat} {L : List Dl} (hK : L.length = K) (hm : K ≤ maxLen) (hL : DlsIn W pu L) (ha : ∀ d ∈ L, d.acc.size ≤ maxLen) (hP : ∀ d ∈ L, PtsIn W d ∧ d.np ≤ maxLen) {pm : Option Addr} {kM cm : Nat} {M : List Int} (hM : Lies kI W pm M) (hkn : M.length = kM) (hcm : pm = none → cm = 0) (hk1 : kM ≤ 17592186043904) :
    Calls Tryd.prog 7 #[.slice pu K cu, .slice pm kM cm] W fun e w' => e = .returned (.bool true) ∧ Below W.heap.size W w' := by
  have dC := hide (claims_any (cu := cu) hK hL hm)
  have HS := hide hS; have HL := hide hL; have HK := hide hK; have HM := hide hm; have HA := hide ha; have HP := hide hP; have HMM := hide hM; have HKN := hide hkn; have HCM := hide hcm; have HK1 := hide hk1
  have hst := arr39; have heg := eg39; have heq := eq39_same
  obtain ⟨N, hN⟩ : ∃ N, N = min K 50 := ⟨_, rfl⟩
  rw [← hN] at dC
  have hNK : N ≤ K := by omega
  have hN5 : N ≤ 50 := by omega
  clear hS hL hK hm ha hP hN hM hkn hcm hk1
  go_enter Tryd.func7, Tryd.ntmps7
  go_wp2_with fail
  refine (unhide dC).mono ?_
  rintro e w1 ⟨p1, c1, rfl, hr1⟩
  have HR1 := hide hr1
  have dC := hide (allots_any (cu := cu) (cc := c1) (unhide HK) ((unhide HL).below hr1.bel) (fun d hd => ⟨(unhide HP d hd).1.below hr1.bel, (unhide HP d hd).2⟩) hr1.len hNK hN5 (unhide HM) (own_lies kC_ok hr1.len hr1.row) (fun c hc => clP_mem hc))
  clear hr1
  go_wp2_with fail
  refine (unhide dC).mono ?_
  rintro e w2 ⟨p2, m, c2, rfl, hr2⟩
  have hmk := Mkd.of (by rw [unhide HK]; exact hNK) hN5 (unhide HA) (unhide HR1) hr2
  obtain ⟨A, hA⟩ : ∃ A, A = alP (clP L N) L N := ⟨_, rfl⟩
  rw [← hA] at hmk
  obtain ⟨C, hC⟩ : ∃ C, C = clP L N := ⟨_, rfl⟩
  rw [← hC] at hmk
  have HMK := hide hmk
  have dC := hide (Mkd.taken (cc := c1) (ca := c2) hmk (unhide HS))
  obtain ⟨d, hd⟩ : ∃ d, d = w2.heap.size := ⟨_, rfl⟩
  rw [← hd] at dC
  unfold ptr at dC
  clear hmk hr2 HR1 hA hC hd HL HP HA HM HK
  go_wp2_with fail
  refine (unhide dC).mono ?_
  rintro e w3 ⟨rfl, hsv⟩
  have dC := hide (hsv.first (unhide HS))
  clear hsv
  go_wp2_with fail
  refine (unhide dC).mono ?_
  rintro e w4 ⟨rfl, hsv⟩
  have dC := hide (hsv.days (cc := c1) (ca := c2) (unhide HMK) (unhide HMM) (unhide HKN) (unhide HCM) (unhide HK1))
  clear hsv
  go_wp2_with fail
  refine (unhide dC).mono ?_
  rintro e w5 ⟨pd, cd, ND, D, rfl, hDn, hDb, hsq⟩
  have HQ := hide hsq; have HDN := hide hDn
  have hDc : ND ≤ 9223372036854775807 := by omega
  clear hsq hDn dC HMM HKN HCM HK1
  go_wp2_with fail
  go_loopw [10] (fun v10 wr => ∃ (i : Nat), v10 = .int .i64 i ∧ i ≤ N ∧ Hid (Sq W wr d p1 p2 pd C A D)) (fun v10 _ => N - (intOf v10).toNat)
  case atStart => exact ⟨0, rfl, by omega, unhide HQ⟩
  case round =>
    obtain ⟨i, rfl, hi, hrel⟩ := hrel
    by_cases hlt : i < N
    · have hiC : i < C.length := by rw [(unhide HMK).cn]; exact hlt
      obtain ⟨b, off, e, hbl, hr⟩ := (unhide hrel).sv.c i hiC
      obtain ⟨s, hs⟩ : ∃ s, s = C[i].acc := ⟨_, rfl⟩
      have hsm : s.size ≤ maxLen := by rw [hs]; exact ((unhide HMK).ck _ (List.getElem_mem hiC)).2
      have HSM := hide hsm
      have HR0 := hide (unhide hrel)
      subst e
      have HCE : Hid (∀ w', Sq W w' d (some ⟨b, off, none⟩) p2 pd C A D → w'.cell? ⟨b, off + i * 5 + 1, none⟩ = some (.string s)) := fun w' h => by
        obtain ⟨b', off', e', _, hr'⟩ := h.sv.c i hiC
        cases e'
        rw [hs]
        exact hr' 1 _ rfl
      clear hr hs hbl hiC hsm hrel
      go_wp2_with fail
      go_loopw [11] (fun v11 wr => ∃ (k : Nat), v11 = .int .i64 k ∧ k ≤ ND ∧ k ≤ 80 ∧ Hid (Sq W wr d (some ⟨b, off, none⟩) p2 pd C A D)) (fun v11 _ => ND - (intOf v11).toNat)
      case atStart => exact ⟨0, rfl, by omega, by omega, unhide HR0⟩
      case round =>
        obtain ⟨k, rfl, hk, hk8, hrel⟩ := hrel
        by_cases hlk : k < ND ∧ k < 80
        · obtain ⟨hlk, hl8⟩ := hlk
          have hkD : k < D.length := by rw [unhide HDN]; exact hlk
          obtain ⟨bd, od, ed⟩ : ∃ bd od, pd = some ⟨bd, od, none⟩ := by obtain ⟨bd, od, ed, _⟩ := (unhide hrel).dl.2 k hkD; exact ⟨bd, od, ed⟩
          obtain ⟨t, ht⟩ : ∃ t, t = D[k] := ⟨_, rfl⟩
          subst ed
          have kt : wr.cell? ⟨bd, od + k, none⟩ = some (.int .i64 t) := by rw [ht]; exact lies_num (unhide hrel).dl hkD
          have ks : wr.cell? ⟨b, off + i * 5 + 1, none⟩ = some (.string s) := unhide HCE _ (unhide hrel)
          have HT0 := hide (unhide hrel)
          obtain ⟨S, hv, hSd⟩ := (unhide hrel).sv.ex
          have dA := hide (at_vw hv ((unhide HS).below (unhide hrel).sv.bel) (unhide HSM) t)
          obtain ⟨f, hf⟩ : ∃ f, f = atS C A s.data.toList t := ⟨_, rfl⟩
          rw [← hf] at dA
          have HF := hide hf
          unfold ptr at dA
          clear ht hkD hrel HR0 hv hSd hf
          go_upto_region 14 with fail
          go_cut [13] (fun v13 wx => ∃ b13, v13 = .pointer (some ⟨b13, 0, none⟩) ∧ Hid (Sq W wx d (some ⟨b, off, none⟩) p2 (some ⟨bd, od, none⟩) C A D ∧ wx.heap[b13]? = some (obj5 f)))
          case first =>
            go_wp2_with fail
            refine (unhide dA).mono ?_
            rintro e x1 ⟨rfl, hb1⟩
            have hr0 : (x1.alloc (obj5 fun _ => 0)).heap[x1.heap.size]? = some (obj5 fun _ => 0) := heap_new _ _
            have hst9 := run_st39 (there5 hr0) f
            have hs5 := set5 hr0 f
            have hb5 := below5 (B := x1.heap.size) (b := x1.heap.size) (w := x1.alloc (obj5 fun _ => 0)) (Nat.le_refl _) (five f) 0 x1 (x1.alloc (obj5 fun _ => 0)) ((Below.refl _ _).alloc (Nat.le_refl _) _)
            obtain ⟨Y, hY⟩ : ∃ Y, Y = (x1.alloc (obj5 fun _ => 0)).setCells x1.heap.size 0 (five f) := ⟨_, rfl⟩
            rw [← hY] at hst9 hs5 hb5
            have HFIN : Hid (Sq W Y d (some ⟨b, off, none⟩) p2 (some ⟨bd, od, none⟩) C A D ∧ Y.heap[x1.heap.size]? = some (obj5 f)) := ⟨((unhide HT0).below hb1).below hb5, hs5⟩
            unfold obj5 at hst9
            unfold ag5 at hst9 ⊢
            clear hY hs5 hb5 hr0 hb1
            go_wp2_with fail
            go_meet
            exact ⟨_, rfl, unhide HFIN⟩
          obtain ⟨b13, rfl, HC1⟩ := hcut
          obtain ⟨S1, hv1, _⟩ := (unhide HC1).1.sv.ex
          have dO := hide (open_vw hv1 ((unhide HS).below (unhide HC1).1.sv.bel) (unhide HSM) t)
          have ks1 : wc.cell? ⟨b, off + i * 5 + 1, none⟩ = some (.string s) := unhide HCE _ (unhide HC1).1
          unfold ptr at dO
          clear dA ks kt hv1 HT0
          go_wp2_with fail
          refine (unhide dO).mono ?_
          rintro e x2 ⟨pR, cR, R, rfl, hop, hlR, hb2, hnR⟩
          have HB2 : Hid (Sb W x2 d (some ⟨b, off, none⟩) p2 (some ⟨bd, od, none⟩) pR C A D R b13 f) := ⟨(unhide HC1).1.below hb2, (hb2.block _ (heap_lt (unhide HC1).2)).trans (unhide HC1).2, hlR⟩
          have HOP := hide hop
          obtain ⟨nR, hnRe⟩ : ∃ nR, nR = R.length := ⟨_, rfl⟩
          have HNR := hide hnRe
          rw [← hnRe] at hnR ⊢
          obtain ⟨b15, hb15⟩ : ∃ b15, b15 = x2.heap.size := ⟨_, rfl⟩
          obtain ⟨X, hX⟩ : ∃ X, X = x2.alloc (obj5 fun _ => 0) := ⟨_, rfl⟩
          have HX : Hid (X = x2.alloc (obj5 fun _ => 0)) := hX
          have HB15 := hide hb15
          have HL0 : Hid (Below x2.heap.size x2 X ∧ X.heap[b15]? = some (obj5 (byS (R.take 0) t))) := by
            rw [hX, hb15]
            exact ⟨(Below.refl _ _).alloc (Nat.le_refl _) _, heap_new _ _⟩
          unfold obj5 at HX
          clear hop hlR hb2 dO ks1 HC1 hb15 hX hnRe
          go_upto_region 17 with fail
          rw [← unhide HX, ← unhide HB15]
          clear HX
          go_wp2_with fail
          go_loopw [16] (fun v16 wr => ∃ (q : Nat), v16 = .int .i64 q ∧ q ≤ nR ∧ Hid (Below x2.heap.size x2 wr ∧ wr.heap[b15]? = some (obj5 (byS (R.take q) t)))) (fun v16 _ => nR - (intOf v16).toNat)
          case atStart => exact ⟨0, rfl, by omega, unhide HL0⟩
          case round =>
            obtain ⟨q, rfl, hq, hrel⟩ := hrel
            by_cases hlq : q < nR
            · have hqR : q < R.length := by rw [← unhide HNR]; exact hlq
              obtain ⟨x, hx⟩ : ∃ x, x = R[q] := ⟨_, rfl⟩
              have hxR : x ∈ R := by rw [hx]; exact List.getElem_mem hqR
              have hxm := opn_mem (unhide HMK).good ((unhide HOP).perm.mem_iff.1 hxR)
              obtain ⟨hx1, hx2, hx3, ⟨ht1, ht2⟩, cc0, hcc, hdu, hxa⟩ := hxm
              have hxe : x.acc = s := str_inj hx2
              have hok := (unhide HMK).good.ok cc0 hcc
              have hd1 := hok.d1; have hd2 := hok.d2; have hd3 := hok.d3
              have hc9 := ((unhide HMK).c9 cc0 hcc).1.2
              rw [← hdu] at hd2 hd3
              have hdlo : 1 ≤ x.due := by omega
              have hxb : x.amt ≤ 1000000000 := by omega
              have hRn : ∀ c ∈ R, 0 ≤ c.amt := fun c hc => by have := (opn_mem (unhide HMK).good ((unhide HOP).perm.mem_iff.1 hc)).1; omega
              have hsucc := fun j => byS_succ hqR t j
              rw [← hx] at hsucc
              obtain ⟨hbw, hy⟩ := unhide hrel
              have hsbw := (unhide HB2).below hbw
              obtain ⟨bR, oR, eR, hbR, hrR⟩ := hsbw.l.2 q hqR
              rw [← hx] at hrR
              have k1 : wr.cell? ⟨bR, oR + q * 5 + 1, none⟩ = some (.string s) := by rw [← hxe]; exact hrR 1 _ rfl
              have k2 : wr.cell? ⟨bR, oR + q * 5 + 2, none⟩ = some (.int .i64 x.day) := hrR 2 _ rfl
              have k3 : wr.cell? ⟨bR, oR + q * 5 + 3, none⟩ = some (.int .i64 x.due) := hrR 3 _ rfl
              have k4 : wr.cell? ⟨bR, oR + q * 5 + 4, none⟩ = some (.int .i64 x.amt) := hrR 4 _ rfl
              have kc : wr.cell? ⟨b, off + i * 5 + 1, none⟩ = some (.string s) := unhide HCE _ hsbw.q
              have hwt : IntKind.i64.wrap (t - x.due) = t - x.due := by rw [IntKind.wrap_i64]; omega
              have hm1 : decide (x.amt < 1) = false := decide_eq_false (by omega)
              have hm3 : decide (t < x.day) = false := decide_eq_false (by omega)
              have hbt : (s.toList == s.toList) = true := by simp
              obtain ⟨n1, hn1⟩ : ∃ n1, n1 = plcS (t - x.due) := ⟨_, rfl⟩
              obtain ⟨s1, hs1⟩ : ∃ s1 : Int, s1 = (n1 : Int) := ⟨_, rfl⟩
              have hn14 : n1 ≤ 4 := by rw [hn1]; exact plcS_le _
              have hs1t : s1.toNat = n1 := by omega
              have hs10 : 0 ≤ s1 := by omega
              have hs15 : s1 < 5 := by omega
              have dP := hide (place_any (n := t - x.due) (by omega) (by omega))
              rw [← hn1, ← hs1] at dP
              obtain ⟨x0, hx0⟩ : ∃ x0, x0 = byS (R.take q) t n1 := ⟨_, rfl⟩
              have hx0b : 0 ≤ x0 ∧ x0 ≤ 1000000000000 := by
                rw [hx0]
                refine ⟨byS_nonneg (fun c hc => hRn c (List.mem_of_mem_take hc)) t n1, Int.le_trans (byS_take hRn t n1 q) ?_⟩
                rw [byS_perm (unhide HOP).perm, by_at (unhide HMK).good]
                exact (asks_at (unhide HMK).good (fun c hc => ((unhide HMK).c9 c hc).1) (by rw [(unhide HMK).cn]; exact hN5) s.data.toList t).big n1 hn14
              have hwr : IntKind.i64.wrap (x0 + x.amt) = x0 + x.amt := by rw [IntKind.wrap_i64]; omega
              have kd1 : wr.drew.drew.cell? ⟨bR, oR + q * 5 + 4, none⟩ = some (.int .i64 x.amt) := k4
              have ka : wr.drew.drew.cell? ⟨b15, n1, none⟩ = some (.int .i64 x0) := by rw [hx0]; exact cell5 (w := wr) hy hn14
              have kf : wr.drew.drew.frozen? ⟨b15, n1, none⟩ = false := froz5 (w := wr) hy
              have hb15 := unhide HB15
              have hyd : wr.drew.drew.heap[b15]? = some (obj5 (byS (R.take q) t)) := hy
              have HREL : Hid (Below x2.heap.size x2 (wr.drew.drew.setCell ⟨b15, n1, none⟩ (.int .i64 (x0 + x.amt))) ∧ (wr.drew.drew.setCell ⟨b15, n1, none⟩ (.int .i64 (x0 + x.amt))).heap[b15]? = some (obj5 (byS (R.take (q + 1)) t))) := by
                refine ⟨hbw.drew.drew.setCell (by rw [← hb15]; exact Nat.le_refl _) _, ?_⟩
                rw [upd5 hyd hn14]
                have hf : ∀ j, (if j = n1 then x0 + x.amt else byS (R.take q) t j) = byS (R.take (q + 1)) t j := fun j => by
                  rw [hsucc j]
                  by_cases e : j = n1
                  · rw [if_pos e, if_pos (by rw [e, hn1]), hx0, e]
                  · rw [if_neg e, if_neg (fun h => e (by rw [hn1]; exact h.symm)), Int.add_zero]
                exact congrArg (fun g => some (obj5 g)) (funext hf)
              obtain ⟨V, hV⟩ : ∃ V, V = wr.drew.drew := ⟨_, rfl⟩
              rw [← hV] at kd1 ka kf HREL
              have HVV := hide hV
              subst eR
              clear hx hxe hx2 hcc hdu hxa hok hd1 hd2 hd3 hc9 hsucc hbw hy hsbw hbR hrR hn1 hs1 hx0 hb15 hyd hV hqR hRn hxR hrel
              go_upto_region 21 with fail
              refine wp_region_last (n := 28) (S := fun W' => W'.cell? ⟨bR, oR + q * 5 + 1, none⟩ = some (.string s) ∧ W'.cell? ⟨bR, oR + q * 5 + 2, none⟩ = some (.int .i64 x.day) ∧ W'.cell? ⟨bR, oR + q * 5 + 4, none⟩ = some (.int .i64 x.amt) ∧ W'.cell? ⟨b, off + i * 5 + 1, none⟩ = some (.string s)) (by kernel_rfl) (by exact ⟨k1, k2, k4, kc⟩) (fun hHeld => ?_)
              refine tkW 0 ?_; refine tkW 1 ?_; refine tkW 2 ?_; refine tkW 3 ?_; refine tkN 4 ?_; refine tkW 5 ?_; refine tkW 6 ?_
              refine tkW 7 ?_; refine tkW 8 ?_; refine tkW 9 ?_; refine tkW 10 ?_; refine tkN 11 ?_; refine tkW 12 ?_; refine tkW 13 ?_; refine tkW 14 ?_; refine tkW 15 ?_; refine tkN 16 ?_; refine tkW 17 ?_; refine tkW 18 ?_; refine tkW 19 ?_
              refine tkW 20 ?_; refine tkW 21 ?_; refine tkW 22 ?_; refine tkW 23 ?_; refine tkN 24 ?_; refine tkW 25 ?_; refine tkW 26 ?_; refine tkW 27 ?_
              refine wpAnyL_done (by kernel_rfl) ?_
              clear hHeld
              go_upto_region 23 with fail
              refine wp_region_last (n := 13) (S := fun W' => W'.cell? ⟨bR, oR + q * 5 + 4, none⟩ = some (.int .i64 x.amt) ∧ W'.cell? ⟨b15, n1, none⟩ = some (.int .i64 x0)) (by kernel_rfl) (by rw [← unhide HVV]; exact ⟨kd1, ka⟩) (fun hHeld => ?_)
              rw [← unhide HVV] at hHeld ⊢
              clear HVV
              refine tkW 0 ?_; refine tkW 2 ?_; refine tkW 6 ?_; refine tkW 7 ?_; refine tkW 8 ?_; refine tkW 9 ?_; refine tkS 10 ?_
              refine wpAnyL_one (i := 1) (by kernel_rfl) rfl (fun KK hK => ?_)
              go_simp
              go_wp2_with (first | (go_at_call 32; refine (unhide dP _).mono ?_; rintro e w7 ⟨rfl, hw⟩; rw [hw]; clear hw w7))
              refine hK.out _ _ (by exact ⟨kd1, ka⟩) (fun hHeld => ?_)
              clear hK KK
              refine wpAnyL_one (i := 3) (by kernel_rfl) rfl (fun KK hK => ?_)
              go_simp
              go_wp2_with (first | (go_at_call 32; refine (unhide dP _).mono ?_; rintro e w7 ⟨rfl, hw⟩; rw [hw]; clear hw w7))
              refine hK.out _ _ (by exact ⟨kd1, ka⟩) (fun hHeld => ?_)
              clear hK KK
              refine tkW 4 ?_; refine tkS 5 ?_; refine tkW 11 ?_; refine tkW 12 ?_
              refine wpAnyL_past (i := 13) (by kernel_rfl) rfl (by kernel_rfl) (fun KK hK => ?_)
              go_simp
              refine hK.out _ _ ?_
              clear hK KK
              refine wpAnyL_done (by kernel_rfl) ?_
              go_wp2_with fail
              go_round
              case rel => exact ⟨q + 1, by push_cast; rfl, by omega, unhide HREL⟩
              case measure => simp only [intOf]; omega
            · have hqn : q = nR := by omega
              have hy : wr.heap[b15]? = some (obj5 f) := by
                have h1 := (unhide hrel).2
                rw [hqn, unhide HNR, List.take_length] at h1
                rw [h1, unhide HF]
                exact congrArg (fun g => some (obj5 g)) (funext fun j => by rw [byS_perm (unhide HOP).perm, by_at (unhide HMK).good])
              have hsb := (unhide HB2).below (unhide hrel).1
              have hask := asks_at (unhide HMK).good (fun c hc => ((unhide HMK).c9 c hc).1) (by rw [(unhide HMK).cn]; exact hN5) s.data.toList t
              rw [← unhide HF] at hask
              have HASK := hide hask
              have HSB := hide hsb; have HY := hide hy
              clear hqn hy hsb hask hrel HB2 HL0
              obtain ⟨x3, hx3⟩ : ∃ x3, x3 = wr := ⟨_, rfl⟩
              subst hx3
              go_wp2_with fail
              go_loopw [18, 19] (fun v18 v19 wr => ∃ (j : Nat) (y : Int), v19 = .int .i64 j ∧ v18 = .int .i64 y ∧ j ≤ N ∧ (0 ≤ y ∧ y ≤ 50000000000) ∧ Hid (y = mst (C.take j) s.data.toList t ∧ Below x3.heap.size x3 wr)) (fun _ v19 _ => N - (intOf v19).toNat)
              case atStart => exact ⟨0, 0, rfl, rfl, by omega, by omega, rfl, Below.refl _ _⟩
              case round =>
                obtain ⟨j, y, rfl, rfl, hj, hyb, hrel⟩ := hrel
                by_cases hlj : j < N
                · have hjC : j < C.length := by rw [(unhide HMK).cn]; exact hlj
                  obtain ⟨hye, hbw⟩ := unhide hrel
                  have hsbw := (unhide HSB).below hbw
                  obtain ⟨b', off', e', _, hrj⟩ := hsbw.q.sv.c j hjC
                  cases e'
                  obtain ⟨c, hc⟩ : ∃ c, c = C[j] := ⟨_, rfl⟩
                  have hsucc := mst_succ hjC s.data.toList t
                  rw [← hc] at hrj hsucc
                  have hmb := mst_bounds (C := C.take (j + 1)) (fun c hc => ((unhide HMK).c9 c (List.mem_of_mem_take hc)).1) s.data.toList t
                  have hml : (C.take (j + 1)).length ≤ 50 := by rw [List.length_take, (unhide HMK).cn]; omega
                  have hcb := ((unhide HMK).c9 c (by rw [hc]; exact List.getElem_mem hjC)).1
                  have j1 : wr.cell? ⟨b, off + j * 5 + 1, none⟩ = some (.string c.acc) := hrj 1 _ rfl
                  have j2 : wr.cell? ⟨b, off + j * 5 + 2, none⟩ = some (.int .i64 c.day) := hrj 2 _ rfl
                  have j4 : wr.drew.cell? ⟨b, off + j * 5 + 4, none⟩ = some (.int .i64 c.amt) := hrj 4 _ rfl
                  have kc : wr.cell? ⟨b, off + i * 5 + 1, none⟩ = some (.string s) := unhide HCE _ hsbw.q
                  obtain ⟨bb, hbb⟩ : ∃ bb : Bool, bb = decide (c.acc.data.toList = s.data.toList ∧ c.day ≤ t ∧ dayB t = true) := ⟨_, rfl⟩
                  have HBB := hide hbb
                  have HBN : Hid (Below x3.heap.size x3 wr.drew) := hbw.drew
                  have dD := hide (isDay33_any t)
                  have hy2 : y + (if bb = true then c.amt else 0) = mst (C.take (j + 1)) s.data.toList t ∧ y + (if bb = true then c.amt else 0) ≤ 50000000000 := by
                    have e1 : y + (if bb = true then c.amt else 0) = mst (C.take (j + 1)) s.data.toList t := by
                      rw [hsucc, ← hye, hbb]
                      congr 1
                      by_cases h : c.acc.data.toList = s.data.toList ∧ c.day ≤ t ∧ dayB t = true
                      · rw [if_pos h, if_pos (decide_eq_true h)]
                      · rw [if_neg h, if_neg (by rw [decide_eq_false h]; simp)]
                    refine ⟨e1, ?_⟩
                    rw [e1]
                    omega
                  have HY2 := hide hy2
                  clear hye hbw hsbw hrj hsucc hmb hml hc hbb hy2 hrel hjC
                  go_upto_region 28 with fail
                  go_cut [160] (fun v160 wx => v160 = .bool bb ∧ Hid (wx = wr.drew))
                  case first =>
                    by_cases hac : c.acc = s
                    · rw [hac] at j1
                      have hbt : (s.toList == s.toList) = true := by simp
                      by_cases hdt : c.day ≤ t
                      · have hm : decide (c.day ≤ t) = true := decide_eq_true hdt
                        have ebb : dayB t = bb := by
                          rw [unhide HBB]
                          cases hd : dayB t with
                          | true => exact (decide_eq_true ⟨by rw [hac], hdt, rfl⟩).symm
                          | false => exact (decide_eq_false (fun h => by cases h.2.2)).symm
                        rw [ebb] at dD
                        refine wp_region_last (n := 24) (S := fun W' => W'.cell? ⟨b, off + j * 5 + 1, none⟩ = some (.string s) ∧ W'.cell? ⟨b, off + j * 5 + 2, none⟩ = some (.int .i64 c.day) ∧ W'.cell? ⟨b, off + i * 5 + 1, none⟩ = some (.string s)) (by kernel_rfl) (by exact ⟨j1, j2, kc⟩) (fun hHeld => ?_)
                        refine tkW 0 ?_; refine tkW 1 ?_; refine tkW 2 ?_; refine tkW 3 ?_; refine tkN 4 ?_; refine tkW 5 ?_; refine tkW 6 ?_; refine tkW 7 ?_; refine tkW 8 ?_; refine tkN 9 ?_; refine tkW 10 ?_; refine tkW 11 ?_
                        refine tkW 12 ?_; refine tkW 13 ?_; refine tkW 14 ?_; refine tkW 15 ?_; refine tkN 16 ?_; refine tkW 17 ?_; refine tkW 18 ?_; refine tkW 19 ?_; refine tkW 20 ?_; refine tkW 21 ?_
                        refine wpAnyL_one (i := 22) (by kernel_rfl) rfl (fun KK hK => ?_)
                        go_simp
                        go_wp2_with (first | (go_at_call 33; refine (unhide dD _).mono ?_; rintro e w7 ⟨rfl, hw⟩; rw [hw]; clear hw w7))
                        refine hK.out _ _ (by exact ⟨j1, j2, kc⟩) (fun hHeld => ?_)
                        clear hK KK
                        refine tkW 23 ?_
                        refine wpAnyL_done (by kernel_rfl) ?_
                        go_wp2_with fail
                        go_meet
                        exact ⟨rfl, rfl⟩
                      · have hm : decide (c.day ≤ t) = false := decide_eq_false hdt
                        have ebb : bb = false := by rw [unhide HBB]; exact decide_eq_false (fun h => hdt h.2.1)
                        refine wp_region_last (n := 24) (S := fun W' => W'.cell? ⟨b, off + j * 5 + 1, none⟩ = some (.string s) ∧ W'.cell? ⟨b, off + j * 5 + 2, none⟩ = some (.int .i64 c.day) ∧ W'.cell? ⟨b, off + i * 5 + 1, none⟩ = some (.string s)) (by kernel_rfl) (by exact ⟨j1, j2, kc⟩) (fun hHeld => ?_)
                        refine tkW 0 ?_; refine tkW 1 ?_; refine tkW 2 ?_; refine tkW 3 ?_; refine tkN 4 ?_; refine tkW 5 ?_; refine tkW 6 ?_; refine tkW 7 ?_; refine tkW 8 ?_; refine tkN 9 ?_; refine tkW 10 ?_; refine tkW 11 ?_
                        refine tkW 12 ?_; refine tkW 13 ?_; refine tkW 14 ?_; refine tkW 15 ?_; refine tkN 16 ?_; refine tkW 17 ?_; refine tkW 18 ?_; refine tkW 19 ?_; refine tkW 20 ?_; refine tkX 21 ?_; refine tkX 22 ?_; refine tkW 23 ?_
                        refine wpAnyL_done (by kernel_rfl) ?_
                        go_wp2_with fail
                        go_meet
                        exact ⟨by rw [ebb], rfl⟩
                    · have hne := str_ne hac
                      have ebb : bb = false := by rw [unhide HBB]; exact decide_eq_false (fun h => hac (str_inj h.1))
                      refine wp_region_last (n := 24) (S := fun W' => W'.cell? ⟨b, off + j * 5 + 1, none⟩ = some (.string c.acc) ∧ W'.cell? ⟨b, off + j * 5 + 2, none⟩ = some (.int .i64 c.day) ∧ W'.cell? ⟨b, off + i * 5 + 1, none⟩ = some (.string s)) (by kernel_rfl) (by exact ⟨j1, j2, kc⟩) (fun hHeld => ?_)
                      refine tkW 0 ?_; refine tkW 1 ?_; refine tkW 2 ?_; refine tkW 3 ?_; refine tkN 4 ?_; refine tkW 5 ?_; refine tkW 6 ?_; refine tkW 7 ?_; refine tkW 8 ?_; refine tkN 9 ?_; refine tkW 10 ?_; refine tkW 11 ?_
                      refine tkX 12 ?_; refine tkX 13 ?_; refine tkX 14 ?_; refine tkX 15 ?_; refine tkX 16 ?_; refine tkX 17 ?_; refine tkX 18 ?_; refine tkW 19 ?_; refine tkW 20 ?_; refine tkX 21 ?_; refine tkX 22 ?_; refine tkW 23 ?_
                      refine wpAnyL_done (by kernel_rfl) ?_
                      go_wp2_with fail
                      go_meet
                      exact ⟨by rw [ebb], rfl⟩
                  obtain ⟨rfl, hwc⟩ := hcut
                  rw [unhide hwc]
                  clear hwc wc dD HBB j1 j2 kc
                  cases bb
                  · have HY3 := hide (unhide HY2)
                    clear HY2
                    go_wp2_with fail
                    go_round
                    case rel => exact ⟨j + 1, y, by push_cast; rfl, rfl, by omega, hyb, by have := (unhide HY3).1; simpa using this, unhide HBN⟩
                    case measure => simp only [intOf]; omega
                  · have HY3 := hide (unhide HY2)
                    have hwy : IntKind.i64.wrap (y + c.amt) = y + c.amt := by rw [IntKind.wrap_i64]; omega
                    clear HY2
                    go_wp2_with fail
                    go_round
                    case rel => exact ⟨j + 1, y + c.amt, by push_cast; rfl, rfl, by omega, by have := (unhide HY3).2; simp only [if_true] at this; omega, by have := (unhide HY3).1; simpa using this, unhide HBN⟩
                    case measure => simp only [intOf]; omega
                · have hjN : j = N := by omega
                  obtain ⟨hye, hbw⟩ := unhide hrel
                  have hle : f 0 + f 1 + f 2 + f 3 + f 4 ≤ y := by
                    have := (unhide HASK).le
                    rw [hye, hjN, ← (unhide HMK).cn, List.take_length]
                    exact this
                  have hsbw := (unhide HSB).below hbw
                  have hg := hsbw.g
                  have hyw : wr.heap[b15]? = some (obj5 f) := (hbw.block _ (heap_lt (unhide HY))).trans (unhide HY)
                  have hl1 := run_ld39 (w := wr) (b := b13) (o := 0) (f := f) (fun i v hv => by
                    unfold obj5 at hg
                    rw [Nat.zero_add, cell_at hg]; simpa [five] using hv)
                  have hl2 := run_ld39 (w := wr) (b := b15) (o := 0) (f := f) (fun i v hv => by
                    unfold obj5 at hyw
                    rw [Nat.zero_add, cell_at hyw]; simpa [five] using hv)
                  have dSm := hide (sum_any (f := f) (fun j hj => ⟨(unhide HASK).nn j, (unhide HASK).big j hj⟩) wr)
                  obtain ⟨sm, hsm⟩ : ∃ sm, sm = f 0 + f 1 + f 2 + f 3 + f 4 := ⟨_, rfl⟩
                  rw [← hsm] at dSm hle
                  have hds : decide (y < sm) = false := decide_eq_false (by omega)
                  have HSW := hide hsbw
                  have n0 : decide (f 0 < 0) = false := decide_eq_false (by have := (unhide HASK).nn 0; omega)
                  have n1 : decide (f 1 < 0) = false := decide_eq_false (by have := (unhide HASK).nn 1; omega)
                  have n2 : decide (f 2 < 0) = false := decide_eq_false (by have := (unhide HASK).nn 2; omega)
                  have n3 : decide (f 3 < 0) = false := decide_eq_false (by have := (unhide HASK).nn 3; omega)
                  have n4 : decide (f 4 < 0) = false := decide_eq_false (by have := (unhide HASK).nn 4; omega)
                  unfold ag5 at hl1 hl2 dSm
                  clear hjN hye hbw hsbw hg hyw hsm hrel hle
                  go_wp2_with fail
                  refine (unhide dSm).mono ?_
                  rintro e x4 ⟨rfl, hb4⟩
                  have hsb4 := (unhide HSW).below hb4
                  have c0 := cell5 hsb4.g (n := 0) (by omega); have c1' := cell5 hsb4.g (n := 1) (by omega); have c2' := cell5 hsb4.g (n := 2) (by omega); have c3 := cell5 hsb4.g (n := 3) (by omega); have c4 := cell5 hsb4.g (n := 4) (by omega)
                  have HQ4 := hide hsb4.q
                  clear hb4 hsb4 hl1 hl2 dSm
                  go_wp2_with fail
                  go_round
                  case rel => exact ⟨k + 1, by push_cast; rfl, by omega, by omega, unhide HQ4⟩
                  case measure => simp only [intOf]; omega
        · have HFF := hide (unhide hrel)
          clear hrel
          by_cases hkN : k < ND
          · have hk80 : ¬ (k < 80) := by omega
            go_wp2_with fail
            go_round
            case rel => exact ⟨i + 1, by push_cast; rfl, by omega, unhide HFF⟩
            case measure => simp only [intOf]; omega
          · go_wp2_with fail
            go_round
            case rel => exact ⟨i + 1, by push_cast; rfl, by omega, unhide HFF⟩
            case measure => simp only [intOf]; omega
    · go_wp2_with fail
      go_ret
      exact ⟨rfl, (unhide hrel).sv.bel⟩
end Go.Proofs.YtildpgfhahmgmaaDoor
namespace Go.Proofs.YtildpgfhahmgmaaDoor.agedSums
open Go.ChangeShapes Go.WideShapes Go.ChangeAt Go.RowKit
set_option linter.unusedVariables false

theorem own : ownKnob Tryd.prog.godebug = none := by kernel_rfl
theorem laidOut : laidOutB Tryd.prog = true := by kernel_rfl
theorem plainMet {W : World} (h : laidMetH Tryd.prog Rows.agedSumsRow.laid W) : laidMet Tryd.prog Rows.agedSumsRow.laid W := by
  rw [MakeChecks.laidMetH_plain _ _ _ (by kernel_rfl)] at h
  exact h
theorem tab_same : (Rows.laid_daybook_aged_steps : DataW Unit) = Lib.tabData .i64 stepsL := by kernel_rfl
theorem tab {W : World} (h : laidMetH Tryd.prog Rows.agedSumsRow.laid W) : Stp W := by
  have h1 : laidMet Tryd.prog (("daybook/aged.steps", Rows.laid_daybook_aged_steps) :: []) W := plainMet h
  rw [tab_same] at h1
  exact Lib.tabIs_of_head (g := 0) (t := 115) (e := 3) (n := 4) (by kernel_rfl) (by kernel_rfl) Tryd.underlying115 Tryd.underlying3 (by kernel_rfl) (by kernel_rfl) h1

set_option maxRecDepth 100000 in
theorem contract (H : Type) (enc : TypeId × Value → H) (W : World) (base : Nat) (args : Array Value) (ds gs : List (DataW H)) (before : List MemPlace)
    (hval0 : ∀ (j : Nat) t v, Tryd.f7.params[j]? = some t → args[j]? = some v → Value.okWide Tryd.prog W .any base t v)
    (hW : DataW.Whole enc Tryd.prog Tryd.f7.params.toList Rows.agedSumsSpec.vars false W args.toList ds gs before)
    (hsz0 : (DataW.weightsEach Tryd.prog (Tryd.f7.params.toList ++ Rows.agedSumsSpec.plain.varTypes Tryd.prog) (ds ++ gs)).all (· ≤ reachBytes) = true) (hL : laidMetH Tryd.prog Rows.agedSumsRow.laid W) :
    Calls Tryd.prog 7 args W fun e W' => ∃ v, e = .returned v ∧ Rows.agedSumsSpec.post enc Tryd.prog Tryd.f7 false true false false W args v W' := by
  have hval : ∀ (j : Nat) t v, Tryd.f7.params[j]? = some t → args[j]? = some v → Value.okWide Tryd.prog W .any base t v := hval0
  have hsz := hsz0
  have hW' := hW
  obtain ⟨p, q, hA0, hV, rfl, hfz, hnd⟩ := hW
  have hA : DataW.TrodAll enc Tryd.prog W 0 (fun _ => true) true Tryd.f7.params.toList args.toList ds p := hA0
  rw [Tryd.params7] at hA hval hsz
  obtain ⟨v0, vs0, d0, ds0, p0, q0, hargs, rfl, rfl, h0, r0⟩ := trodAll_cons hA
  obtain ⟨v1, vs1, d1, ds1, p1, q1, hargs1, rfl, rfl, h1, r1⟩ := trodAll_cons r0
  obtain ⟨rfl, rfl, rfl⟩ := trodAll_nil r1
  obtain rfl : args = #[v0, v1] := by cases args; simp_all
  obtain ⟨rfl, rfl⟩ := trodVars_none hV
  have lt0 : ∀ x ∈ p0, x.block < W.heap.size := by obtain ⟨m, hm⟩ := h0; exact DataW.trod_lt m _ _ _ hm
  have hw0 : ∀ n ∈ d0.weights Tryd.prog 22, n ≤ reachBytes := fun n hn => by
    have := List.all_eq_true.1 hsz n (DataW.weights_mem_each (j := 0) (t := 22) (d := d0) rfl rfl n hn)
    simpa using this
  obtain ⟨pu, cu, L, e0, hK, hops, hacc, hpts⟩ := open_deals (hval 0 22 v0 rfl rfl) h0 hw0
  have lt1 : ∀ x ∈ p1, x.block < W.heap.size := by obtain ⟨m, hm⟩ := h1; exact DataW.trod_lt m _ _ _ hm
  have hw1 : ∀ n ∈ d1.weights Tryd.prog 57, n ≤ reachBytes := fun n hn => by
    have := List.all_eq_true.1 hsz n (DataW.weights_mem_each (j := 1) (t := 57) (d := d1) rfl rfl n hn)
    simpa using this
  obtain ⟨pm, cm, M, e1, hM1, hM2, hM3⟩ := open_nums (hval 1 57 v1 rfl rfl) h1 hw1
  clear hA0 hval0
  subst e0
  subst e1
  refine (walk_AgedSums (cu := cu) (cm := cm) (tab hL) rfl hK hops hacc hpts hM2 rfl hM3 hM1).mono fun e W' ⟨he, bel⟩ => ?_
  subst he
  exact ⟨_, rfl, _, _, _, [], _, [], hW', trodAll_mk1 (shut_bool Tryd.underlying4 _), (trodAll_cons_mk (Below.trod laidOut (by kernel_rfl) (of_decide_eq_true (by kernel_rfl)) h0 bel lt0) (trodAll_cons_mk (Below.trod laidOut (by kernel_rfl) (of_decide_eq_true (by kernel_rfl)) h1 bel lt1) trodAll_mk0)), rfl, bel.frame _, fun h => by cases h⟩

theorem laid_met (os : Os) : laidMetH Tryd.prog Rows.agedSumsRow.laid ((World.laidAll Tryd.prog os Rows.agedSumsRow.laid).forCall (fun _ _ => 0) ⟨#[], #[.slice none 0 0, .slice none 0 0], []⟩).memory := by
  rw [MakeChecks.laidMetH_plain _ _ _ (by kernel_rfl)]
  exact laidMet_laidAll _ (by kernel_rfl) (by kernel_rfl)
theorem reads (os : Os) {H : Type} (enc : TypeId × Value → H) : ∃ places, DataW.whole enc Tryd.prog ((World.laidAll Tryd.prog os Rows.agedSumsRow.laid).forCall (fun _ _ => 0) ⟨#[], #[.slice none 0 0, .slice none 0 0], []⟩).memory Tryd.f7.params.toList Rows.agedSumsSpec.vars false #[Value.slice none 0 0, .slice none 0 0].toList 8 = some ([.nil, .nil], [], places) :=
  ⟨[], by kernel_rfl⟩

set_option maxRecDepth 100000 in
theorem lifted (os : Os) (started : os.Started) (H : Type) (enc : TypeId × Value → H) (F : Stop.Interp) :
    ReturnsInHanded {} Tryd.checked os 7 .any ((OpenSpec.ofChange Rows.agedSumsSpec).preRow enc Tryd.prog Tryd.f7 Rows.agedSumsRow.domain false Rows.agedSumsRow.laid) (((OpenSpec.ofChange Rows.agedSumsSpec).at F).post enc Tryd.prog Tryd.f7 false true false false) := by
  obtain ⟨places, hx⟩ := reads os enc
  refine returnsInHanded_of_row (C := Tryd.checked) (s := OpenSpec.ofChange Rows.agedSumsSpec) own started (by kernel_rfl) Tryd.func7
    (witness_row_at (enc := enc) (C := Tryd.checked) false (World.laidAll Tryd.prog os Rows.agedSumsRow.laid) #[.slice none 0 0, .slice none 0 0] (World.laidAll_os _ _ _) (by kernel_rfl) (by kernel_rfl) (by kernel_rfl)
      (OpenSpec.preRow_of_cond 8 hx (by kernel_rfl) (fun k hk => by cases hk) (by kernel_rfl) (laid_met os))) ?_
  intro W base args ds gs before hval hW _ _ hsz hL _ _
  exact contract H enc W base args ds gs before hval hW hsz hL

theorem fa : (Rows.agedSumsRow.inPlace == Tryd.prog.inPlace 7) = true := by kernel_rfl
theorem fb : (Rows.agedSumsRow.unfollowed == Tryd.prog.unfollowed 7) = true := by kernel_rfl
theorem fc : (Rows.agedSumsRow.recurses == Tryd.prog.recurses 7) = true := by kernel_rfl
theorem fd : (Rows.agedSumsRow.named == Tryd.prog.varsNamed 7) = true := by kernel_rfl
theorem closed : joinedFacts Tryd.prog 7 Tryd.f7 (OpenSpec.ofChange Rows.agedSumsSpec).bare Rows.agedSumsRow = true := by
  unfold joinedFacts
  rw [fa, fb, fc, fd]
  kernel_rfl
theorem over : Rows.AgedSumsSaid :=
  OpenClaim.holds_of_cond 7 Tryd.f7 rfl rfl rfl rfl rfl rfl rfl ⟨rfl, rfl, rfl, rfl, rfl⟩ rfl rfl rfl rfl rfl (by kernel_rfl) Tryd.func7 closed
    (of_decide_eq_true (by kernel_rfl)) (by unfold Func.isWrapper; first | (rw [if_pos (by decide +kernel)]; kernel_rfl) | (rw [if_neg (by decide +kernel)]; exact ⟨rfl, rfl⟩))
    (fun os started H enc _ F => by rw [OpenClaim.pre_eq_preRow]; exact lifted os started H enc F)
theorem plain (f : FuncId) (fn : Func) (hf : Tryd.pinned.checked.prog.funcNamed "daybook/daybooklaw10.AgedSums" = some f) (hfn : Tryd.pinned.checked.prog.funcs[f]? = some fn) :
    false = Tryd.pinned.checked.prog.looks [] ∧ ∀ (j : Nat) t, fn.params[j]? = some t → Tryd.pinned.checked.prog.wantsStandIn t = false := by
  obtain rfl : f = 7 := Option.some.inj ((show Tryd.prog.funcNamed "daybook/daybooklaw10.AgedSums" = some 7 by kernel_rfl).symm.trans hf) |>.symm
  obtain rfl : fn = Tryd.f7 := (Option.some.inj (Tryd.func7.symm.trans hfn)).symm
  refine ⟨by kernel_rfl, fun j t ht => ?_⟩
  rw [Tryd.params7] at ht
  have hm : t ∈ [22, 57] := by simpa using Array.mem_of_getElem? ht
  have hall : ([22, 57].all fun u => !Tryd.prog.wantsStandIn u) = true := by kernel_rfl
  exact (show Tryd.prog.wantsStandIn t = false by simpa using List.all_eq_true.1 hall t hm)
end Go.Proofs.YtildpgfhahmgmaaDoor.agedSums
namespace Go.Proofs.YtildpgfhahmgmaaDoor
theorem agedSums_card : Rows.AgedSumsCardSaid :=
  Claim7.holds_tied_plain_at .later [] _ _ _ _ agedSums.over (fun _ h => by cases h) (by kernel_rfl) (fun _ h => by cases h) agedSums_row_tie rfl ⟨rfl, rfl⟩ (by kernel_rfl) rfl agedSums.plain (by kernel_rfl)
#print axioms agedSums_card
end Go.Proofs.YtildpgfhahmgmaaDoor
