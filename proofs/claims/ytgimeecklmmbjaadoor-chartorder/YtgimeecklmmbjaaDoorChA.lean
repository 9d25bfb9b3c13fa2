/- chart: cmp.Compare (27), place$1 (51), slices.BinarySearchFunc (50), place (37). -/
import Derived.Test.YtgimeecklmmbjaaDoorPthD
import Derived.Test.YtgimeecklmmbjaaDoorChN
import Derived.Sort.Walk0
import Derived.Deep.LoopGhost
namespace Go.Proofs.YtgimeecklmmbjaaDoor
open Go Go.Shelf Go.ChangeShapes Go.WideShapes Go.ChangeAt Go.RowKit Go.Maps
set_option linter.unusedVariables false
def cmpS (x y : List UInt8) : Int := if x < y then -1 else if x = y then 0 else 1
theorem slt_irrefl (x : List UInt8) : ¬ x < x := List.lt_irrefl x
theorem slt_trans {x y z : List UInt8} (h1 : x < y) (h2 : y < z) : x < z := List.lt_trans h1 h2
theorem slt_tri {x y : List UInt8} (h1 : ¬ x < y) (h2 : ¬ y < x) : x = y := by
  rw [List.not_lt] at h1 h2
  exact List.le_antisymm h2 h1
theorem cmpS_neg (x y : List UInt8) : cmpS x y < 0 ↔ x < y := by
  unfold cmpS
  by_cases h1 : x < y
  · simp [h1]
  · by_cases h2 : x = y
    · rw [if_neg h1, if_pos h2]; simp [h1]
    · rw [if_neg h1, if_neg h2]; simp [h1]
theorem nans_any (x : ByteArray) (w : World) : Calls Tryd.prog 42 #[.string x] w fun e w' => e = .returned (.bool false) ∧ w' = w := by
  have hx : (x.toList == x.toList) = true := by simp
  go_enter Tryd.func42, Tryd.ntmps42
  go_wp2_with fail
  go_ret
  exact ⟨rfl, rfl⟩
theorem cmps_any (x y : ByteArray) (w : World) : Calls Tryd.prog 27 #[.string x, .string y] w fun e w' => e = .returned (.int .i64 (cmpS x.data.toList y.data.toList)) ∧ w' = w := by
  have d1 := hide (nans_any x); have d2 := hide (nans_any y)
  have e1 : Op.bytesLess x.toList y.toList = decide (x.data.toList < y.data.toList) := by rw [Go.Proofs.bytesLess_eq, ByteArray.toList_eq, ByteArray.toList_eq]
  have e2 : (x.toList == y.toList) = decide (x.data.toList = y.data.toList) := by rw [ByteArray.toList_eq, ByteArray.toList_eq]; exact Bool.eq_iff_iff.2 (by rw [beq_iff_eq, decide_eq_true_iff])
  by_cases h1 : x.data.toList < y.data.toList
  · rw [cmpS, if_pos h1]
    rw [decide_eq_true h1] at e1
    clear e2 h1
    go_enter Tryd.func27, Tryd.ntmps27
    go_wp2_with fail
    refine (unhide d1 _).mono ?_
    rintro e w' ⟨rfl, rfl⟩
    go_wp2_with fail
    refine (unhide d2 _).mono ?_
    rintro e w' ⟨rfl, rfl⟩
    go_wp2_with fail
    go_ret
    exact ⟨rfl, rfl⟩
  · rw [decide_eq_false h1] at e1
    by_cases h2 : x.data.toList = y.data.toList
    · rw [cmpS, if_neg h1, if_pos h2]
      rw [decide_eq_true h2] at e2
      clear h1 h2
      go_enter Tryd.func27, Tryd.ntmps27
      go_wp2_with fail
      refine (unhide d1 _).mono ?_
      rintro e w' ⟨rfl, rfl⟩
      go_wp2_with fail
      refine (unhide d2 _).mono ?_
      rintro e w' ⟨rfl, rfl⟩
      go_wp2_with fail
      go_ret
      exact ⟨rfl, rfl⟩
    · rw [cmpS, if_neg h1, if_neg h2]
      rw [decide_eq_false h2] at e2
      clear h1 h2
      go_enter Tryd.func27, Tryd.ntmps27
      go_wp2_with fail
      refine (unhide d1 _).mono ?_
      rintro e w' ⟨rfl, rfl⟩
      go_wp2_with fail
      refine (unhide d2 _).mono ?_
      rintro e w' ⟨rfl, rfl⟩
      go_wp2_with fail
      go_ret
      exact ⟨rfl, rfl⟩

theorem cmpS_zero (x y : List UInt8) : cmpS x y = 0 ↔ x = y := by
  unfold cmpS
  by_cases h1 : x < y
  · rw [if_pos h1]
    constructor
    · intro h; omega
    · rintro rfl; exact absurd h1 (slt_irrefl _)
  · by_cases h2 : x = y
    · rw [if_neg h1, if_pos h2]; simp [h2]
    · rw [if_neg h1, if_neg h2]; simp [h2]
/-- a name as a text -/
abbrev txN (x : Nm) : ByteArray := ⟨x.toArray⟩
theorem txN_list (x : Nm) : (txN x).data.toList = x := by simp
/-- a pointer to a block -/
abbrev ptr (b : Nat) : Value := .pointer (some ⟨b, 0, none⟩)
set_option maxHeartbeats 1000000 in
theorem place1_any (b : Nat) (s t : ByteArray) (w : World) (h : w.cell? ⟨b, 0, none⟩ = some (.string s)) : Calls Tryd.prog 51 #[ptr b, .string t] w fun e w' => e = .returned (.int .i64 (cmpS s.data.toList t.data.toList)) ∧ w' = w := by
  have d1 := hide (cmps_any s t)
  go_enter Tryd.func51, Tryd.ntmps51
  go_wp2_with fail
  refine (unhide d1 _).mono ?_
  rintro e w' ⟨rfl, rfl⟩
  go_wp2_with fail
  go_ret
  exact ⟨rfl, rfl⟩
/-- how many names are ahead of one -/
def posK (K : List Nm) (x : Nm) : Nat := K.countP fun y => decide (y < x)
theorem posK_is {K : List Nm} {x : Nm} {i : Nat} (hi : i ≤ K.length) (h1 : ∀ t (h : t < K.length), t < i → K[t] < x) (h2 : ∀ t (h : t < K.length), i ≤ t → ¬ K[t] < x) : posK K x = i := by
  unfold posK
  induction K generalizing i with
  | nil => simp at hi; simp [hi]
  | cons k K ih =>
    cases i with
    | zero =>
      rw [List.countP_eq_zero]
      intro y hy
      obtain ⟨t, ht, rfl⟩ := List.getElem_of_mem hy
      simpa using h2 t ht (by omega)
    | succ i =>
      have hk : k < x := h1 0 (by simp) (by omega)
      rw [List.countP_cons_of_pos (by simpa using hk), ih (by simpa using hi) (fun t h ht => h1 (t + 1) (by simpa using h) (by omega)) (fun t h ht => h2 (t + 1) (by simpa using h) (by omega))]
theorem posK_le (K : List Nm) (x : Nm) : posK K x ≤ K.length := List.countP_le_length
theorem found_is {K : List Nm} {x : Nm} (hK : K.Pairwise (· < ·)) {i : Nat} (hi : i ≤ K.length) (h1 : ∀ t (h : t < K.length), t < i → K[t] < x) (h2 : ∀ t (h : t < K.length), i ≤ t → ¬ K[t] < x) : x ∈ K ↔ ∃ h : i < K.length, K[i] = x := by
  constructor
  · intro hx
    obtain ⟨t, ht, rfl⟩ := List.getElem_of_mem hx
    have hti : ¬ t < i := fun h => slt_irrefl _ (h1 t ht h)
    by_cases e : t = i
    · subst e; exact ⟨ht, rfl⟩
    · have hlt : i < t := by omega
      have := List.pairwise_iff_getElem.1 hK i t (by omega) ht hlt
      exact absurd this (h2 i (by omega) (Nat.le_refl _))
  · rintro ⟨h, rfl⟩
    exact List.getElem_mem h
theorem enters51 : ∀ args w, (callFunc 51 args).run Tryd.prog w = .ok (.enter 51 args) w := by
  exact enters_of Tryd.func51 (by kernel_rfl) rfl

/-- a row of nodes: the names that stand right below, in memory -/
structure RowK (w : World) (q : Nat) (nd : Nm → Nat) (K : List Nm) : Prop where
  row : ∀ j (h : j < K.length), w.cell? ⟨q, j, none⟩ = some (ptr (nd K[j]))
  nam : ∀ x ∈ K, w.cell? ⟨nd x, 0, none⟩ = some (.string (txN x))
set_option maxRecDepth 100000 in
set_option maxHeartbeats 4000000 in
theorem bsf_any (w : World) (q cap n : Nat) (nd : Nm → Nat) (K : List Nm) (hn : K.length = n) (hn1 : n ≤ 100) (t : ByteArray) (hK : RowK w q nd K) (hr : K.Pairwise (· < ·)) :
    Calls Tryd.prog 50 #[.slice (some ⟨q, 0, none⟩) n cap, .string t, .func (.func 51) #[] #[]] w fun e w' => e = .returned (.tuple #[.int .i64 (posK K t.data.toList : Nat), .bool (decide (t.data.toList ∈ K))]) ∧ w' = w := by
  have HK := hide hK; have HR := hide hr; have HN := hide hn
  have eg := enters51
  clear hK hr hn
  obtain ⟨po, hpo⟩ : ∃ z, posK K t.data.toList = z := ⟨_, rfl⟩
  have PO := hide hpo
  rw [hpo]
  clear hpo
  obtain ⟨fo, hfo⟩ : ∃ z, decide (t.data.toList ∈ K) = z := ⟨_, rfl⟩
  have FO := hide hfo
  rw [hfo]
  clear hfo
  have key : ∀ y (hy : y < n), ∃ s, Hid (∃ h : y < K.length, K[y] = s) ∧ w.cell? ⟨q, y, none⟩ = some (ptr (nd s)) ∧ Hid (Calls Tryd.prog 51 #[ptr (nd s), .string t] w fun e w' => e = .returned (.int .i64 (cmpS s t.data.toList)) ∧ w' = w) := fun y hy => by
    have hy' : y < K.length := by rw [unhide HN]; exact hy
    refine ⟨K[y], ⟨hy', rfl⟩, (unhide HK).row y hy', ?_⟩
    have := place1_any (nd K[y]) (txN K[y]) t w ((unhide HK).nam _ (List.getElem_mem hy'))
    rw [txN_list] at this
    exact this
  have KEY := hide key
  clear key
  go_enter Tryd.func50, Tryd.ntmps50
  go_wp2
  go_loopg [9, 10] n (fun kx s9 s10 wr => ∃ lo hi : Nat, s9 = .int .i64 lo ∧ s10 = .int .i64 hi ∧ lo ≤ hi ∧ hi ≤ n ∧ hi - lo ≤ kx ∧ Hid (wr = w) ∧ Hid (∀ y (h : y < K.length), y < lo → K[y] < t.data.toList) ∧ Hid (∀ y (h : y < K.length), hi ≤ y → ¬ K[y] < t.data.toList))
  case atStart => exact ⟨0, n, rfl, rfl, Nat.zero_le _, Nat.le_refl _, by omega, rfl, fun y h h2 => by omega, fun y h h2 => by have := unhide HN; omega⟩
  case round =>
    obtain ⟨lo, hi, rfl, rfl, hlh, hin, hg, hw, i1, i2⟩ := hrel
    have hw' := unhide hw
    subst hw'
    by_cases hlt : lo < hi
    · obtain ⟨s, hs, hc, dc⟩ := unhide KEY ((lo + hi) / 2) (by omega)
      obtain ⟨c, hcv⟩ : ∃ c, cmpS s t.data.toList = c := ⟨_, rfl⟩
      rw [hcv] at dc
      have CV := hide hcv
      clear hcv
      by_cases hy : c < 0
      · go_wp2_with (go_at_fn 51; refine (unhide dc).mono ?_; rintro e w' ⟨rfl, rfl⟩)
        go_roundg (hi - ((lo + hi) / 2 + 1))
        case measure => omega
        case rel =>
          refine ⟨(lo + hi) / 2 + 1, hi, by rw [show ((lo : Int) + (hi : Int)) / 2 + 1 = (((lo + hi) / 2 + 1 : Nat) : Int) by omega], rfl, by omega, hin, Nat.le_refl _, rfl, fun y h h2 => ?_, unhide i2⟩
          obtain ⟨hm, em⟩ := unhide hs
          have hsx : s < t.data.toList := (cmpS_neg _ _).1 (by rw [unhide CV]; exact hy)
          rw [← em] at hsx
          by_cases e : y = (lo + hi) / 2
          · subst e; exact hsx
          · exact slt_trans (List.pairwise_iff_getElem.1 (unhide HR) y _ h hm (by omega)) hsx
      · go_wp2_with (go_at_fn 51; refine (unhide dc).mono ?_; rintro e w' ⟨rfl, rfl⟩)
        go_roundg ((lo + hi) / 2 - lo)
        case measure => omega
        case rel =>
          refine ⟨lo, (lo + hi) / 2, rfl, by rw [show ((lo : Int) + (hi : Int)) / 2 = (((lo + hi) / 2 : Nat) : Int) by omega], by omega, by omega, Nat.le_refl _, rfl, unhide i1, fun y h h2 hyx => ?_⟩
          obtain ⟨hm, em⟩ := unhide hs
          have hsx : ¬ s < t.data.toList := fun h => Int.not_lt.2 hy (by rw [← unhide CV]; exact (cmpS_neg _ _).2 h)
          rw [← em] at hsx
          by_cases e : y = (lo + hi) / 2
          · subst e; exact hsx hyx
          · exact hsx (slt_trans (List.pairwise_iff_getElem.1 (unhide HR) _ y hm h (by omega)) hyx)
    · obtain rfl : hi = lo := by omega
      have hpos := posK_is (i := hi) (by rw [unhide HN]; exact hin) (unhide i1) (unhide i2)
      rw [unhide PO] at hpos
      subst hpos
      by_cases hn : po < n
      · obtain ⟨s, hs, hc, dc⟩ := unhide KEY po hn
        obtain ⟨c, hcv⟩ : ∃ c, cmpS s t.data.toList = c := ⟨_, rfl⟩
        rw [hcv] at dc
        have hfin : fo = (c == 0) := by
          rw [← unhide FO, ← hcv, Bool.eq_iff_iff, decide_eq_true_eq, beq_iff_eq, cmpS_zero, found_is (unhide HR) (by rw [unhide HN]; exact hin) (unhide i1) (unhide i2)]
          obtain ⟨hm, em⟩ := unhide hs
          constructor
          · rintro ⟨_, h⟩; rw [← em]; exact h
          · intro h; exact ⟨hm, em.trans h⟩
        clear hcv
        subst hfin
        have HF := hide hn
        by_cases hy : c = 0
        · have hy2 : (c == 0) = true := by simp [hy]
          go_wp2_with (go_at_fn 51; refine (unhide dc).mono ?_; rintro e w' ⟨rfl, rfl⟩)
          go_ret2
          exact ⟨by simp [hy], rfl⟩
        · have hy2 : (c == 0) = false := by simp [hy]
          go_wp2_with (go_at_fn 51; refine (unhide dc).mono ?_; rintro e w' ⟨rfl, rfl⟩)
          go_ret2
          exact ⟨by simp [hy], rfl⟩
      · have hfin : fo = false := by
          rw [← unhide FO, decide_eq_false_iff_not, found_is (unhide HR) (by rw [unhide HN]; exact hin) (unhide i1) (unhide i2)]
          rintro ⟨h, _⟩
          have := unhide HN
          omega
        subst hfin
        go_wp2
        go_ret2
        exact ⟨rfl, rfl⟩
end Go.Proofs.YtgimeecklmmbjaaDoor
