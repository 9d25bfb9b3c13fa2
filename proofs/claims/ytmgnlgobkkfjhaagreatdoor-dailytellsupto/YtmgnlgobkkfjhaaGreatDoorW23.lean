import Derived.Test.YtmgnlgobkkfjhaaGreatDoorW21
import Derived.Test.YtmgnlgobkkfjhaaGreatDoorW22
import Derived.Test.YtmgnlgobkkfjhaaGreatDoorW15
import Derived.Sort.Walk0
/- daily: rows that can be, lists of states, plain. -/
namespace Go.Proofs.YtmgnlgobkkfjhaaGreatDoor
open Go Go.Shelf Go.ChangeShapes Go.WideShapes Go.ChangeAt Go.RowKit Go.Maps Go.Sort
set_option linter.unusedVariables false
theorem srt_eq {a b : List (List UInt8)} (ha : a.Nodup) (hb : b.Nodup) (h : ∀ k, k ∈ a ↔ k ∈ b) : srt a = srt b := mergeSort_of_perm ((List.perm_ext_iff_of_nodup ha hb).2 h)
theorem tol_append (R S : List Ro) (k : List UInt8) : tol (R ++ S) k = tol R k ++ tol S k := by simp [tol]
theorem tol_nil (k : List UInt8) : tol [] k = [] := rfl
theorem tol_cons (r : Ro) (R : List Ro) (k : List UInt8) : tol (r :: R) k = (if r.acc.data.toList = k then [(r.day, r.amt)] else []) ++ tol R k := by
  unfold tol
  rw [List.filter_cons]
  by_cases h : r.acc.data.toList = k
  · simp [h]
  · simp [h]
/-- what rows tell of all accounts is not more than the rows -/
theorem tol_sum : ∀ (R : List Ro) (ss : List (List UInt8)), ss.Nodup → (ss.map fun k => (tol R k).length).sum ≤ R.length
  | [], ss, _ => by
    have : (ss.map fun k => (tol [] k).length) = ss.map fun _ => 0 := List.map_congr_left fun k _ => rfl
    rw [this]
    clear this
    have h : ∀ l : List (List UInt8), (l.map fun _ => 0).sum = 0 := fun l => by
      induction l with
      | nil => rfl
      | cons s l ih => rw [List.map_cons, List.sum_cons, ih]
    rw [h ss]
    exact Nat.zero_le _
  | r :: R, ss, hn => by
    have ih := tol_sum R ss hn
    have h : ∀ ss : List (List UInt8), ss.Nodup → (ss.map fun k => (tol (r :: R) k).length).sum ≤ (if r.acc.data.toList ∈ ss then 1 else 0) + (ss.map fun k => (tol R k).length).sum := by
      intro ss hn
      induction ss with
      | nil => simp
      | cons s ss ih =>
        rw [List.nodup_cons] at hn
        have h2 := ih hn.2
        simp only [List.map_cons, List.sum_cons, tol_cons r R s, List.length_append]
        by_cases e : r.acc.data.toList = s
        · rw [if_pos e, if_pos (by rw [e]; exact List.mem_cons_self)]
          rw [if_neg (by rw [e]; exact hn.1)] at h2
          simp only [List.length_singleton]
          omega
        · rw [if_neg e]
          by_cases e2 : r.acc.data.toList ∈ ss
          · rw [if_pos (List.mem_cons_of_mem _ e2)]
            rw [if_pos e2] at h2
            simp only [List.length_nil]
            omega
          · rw [if_neg e2] at h2
            rw [if_neg (fun h => by rcases List.mem_cons.1 h with h | h <;> contradiction)]
            simp only [List.length_nil]
            omega
    have h3 := h ss hn
    rw [List.length_cons]
    have : (if r.acc.data.toList ∈ ss then 1 else 0) ≤ 1 := by split <;> omega
    omega
theorem ser_le {T : Td} {S : List Mk} (h : Ser T S) : S.length ≤ T.length := by
  have := ser_len Ser.nil (M := T) (S' := S) (by rw [List.nil_append]; exact h)
  simpa using this
theorem stl_le {R : List Ro} {F : List UInt8 → List Mk} (h : ∀ k, Ser (tol R k) (F k)) : ∀ ss : List (List UInt8), (stl F ss).length ≤ (ss.map fun k => (tol R k).length).sum
  | [] => by simp [stl]
  | s :: ss => by
    have ih := stl_le h ss
    have h1 := ser_le (h s)
    have e : stl F (s :: ss) = ((F s).map fun m => (⟨s.toArray⟩, m)) ++ stl F ss := by simp [stl]
    rw [e, List.length_append, List.length_map, List.map_cons, List.sum_cons]
    omega
/-- rows that can be -/
structure Can (R : List Ro) : Prop where
  acc : ∀ r ∈ R, r.acc.size < 4611686018427387904
  amt : ∀ r ∈ R, -9223372036854775808 ≤ r.amt ∧ r.amt ≤ 9223372036854775807
theorem Can.nil : Can [] := ⟨fun r h => (by cases h), fun r h => (by cases h)⟩
theorem Can.append {R S : List Ro} (h : Can R) (k : Can S) : Can (R ++ S) :=
  ⟨fun r hr => (List.mem_append.1 hr).elim (h.acc r) (k.acc r), fun r hr => (List.mem_append.1 hr).elim (h.amt r) (k.amt r)⟩
theorem Can.sub {R S : List Ro} (h : Can R) (hs : ∀ r ∈ S, r ∈ R) : Can S := ⟨fun r hr => h.acc r (hs r hr), fun r hr => h.amt r (hs r hr)⟩
/-- the list of a state -/
def Stt (R : List Ro) (L : List Dr) : Prop := ∃ F ss, (∀ k, Ser (tol R k) (F k)) ∧ ss.Nodup ∧ (∀ k, k ∈ ss ↔ F k ≠ []) ∧ L = stl F (srt ss)
theorem Stt.same {R S : List Ro} {L M : List Dr} (h : Stt R L) (k : Stt S M) (e : ∀ n d, own (tol R n) d = own (tol S n) d) : L = M := by
  obtain ⟨F, ss, h1, h2, h3, rfl⟩ := h
  obtain ⟨G, tt, k1, k2, k3, rfl⟩ := k
  have hF : F = G := funext fun n => ((h1 n).same (e n)).uniq (k1 n)
  subst hF
  rw [srt_eq h2 k2 fun n => (h3 n).trans (k3 n).symm]
theorem Stt.len {R : List Ro} {L : List Dr} (h : Stt R L) : L.length ≤ R.length := by
  obtain ⟨F, ss, h1, h2, h3, rfl⟩ := h
  exact Nat.le_trans (stl_le h1 _) (tol_sum R _ ((srt_perm ss).nodup_iff.2 h2))
theorem fk_name {R : List Ro} {S : List Mk} {k : List UInt8} (h : Ser (tol R k) S) (hne : S ≠ []) : ∃ r ∈ R, r.acc.data.toList = k := by
  by_cases ht : tol R k = []
  · rw [ht] at h
    exact absurd (h.uniq Ser.nil) hne
  · obtain ⟨y, hy⟩ := List.exists_mem_of_ne_nil _ ht
    obtain ⟨r, hr, e, _⟩ := tol_mem hy
    exact ⟨r, hr, e⟩
end Go.Proofs.YtmgnlgobkkfjhaaGreatDoor
/- The document's daily: State (20). -/
namespace Go.Proofs.YtmgnlgobkkfjhaaGreatDoor.Kg
open Go Go.RowKit Go.Shelf Go.ChangeShapes Go.WideShapes Go.ChangeAt Go.Maps
set_option linter.unusedVariables false
set_option linter.unusedSimpArgs false
set_option maxRecDepth 100000
set_option maxHeartbeats 8000000
theorem str_lt (x y : ByteArray) : Op.bytesLess x.toList y.toList = decide (x.data.toList < y.data.toList) := by rw [bytesLess_eq, ByteArray.toList_eq, ByteArray.toList_eq]
/-- a list behind it -/
theorem Ml.app {α : Type} {K : Kd α} (hK : KdOK K) {wb w : World} {v : Value} {M X : List α} (h : Ml K wb w v M) {pu : Option Addr} {cu : Nat} (hcu : pu = none → cu = 0) (hu : Lies K w pu X) (hl : M.length + X.length < 1099511627776) (ty : TypeId) :
    ∃ p' c' w', (Builtin.append_ #[K.t, K.t] ty #[v, .slice pu X.length cu]).run Tryz.prog w = .ok (.slice p' (M.length + X.length) c') w' ∧ Ml K wb w' (.slice p' (M.length + X.length) c') (M ++ X) := by
  obtain ⟨p', c', w', hr, ho, hb, _, _⟩ := run_app hK ty (W := w) (B := wb.heap.size) (M := X) h.row h.bel.size pu cu hcu hu (by omega)
  exact ⟨p', c', w', hr, ⟨by rw [List.length_append]; exact ho, h.bel.trans hb⟩⟩
/-- all names that were told, rising, each once -/
def nmL (R : List Ro) : List (List UInt8) := srt (nub (R.map fun r => r.acc.data.toList))
theorem nm_mem {R : List Ro} {k : List UInt8} : k ∈ nmL R ↔ ∃ r ∈ R, r.acc.data.toList = k := by
  unfold nmL
  rw [(srt_perm _).mem_iff, mem_nub, List.mem_map]
theorem nm_nd (R : List Ro) : (nmL R).Nodup := (srt_perm _).nodup_iff.2 (nodup_nub _)
theorem srt_up (l : List (List UInt8)) : (srt l).Pairwise (fun x y => x ≤ y) := by
  have := List.pairwise_mergeSort (le := fun (x y : List UInt8) => decide (x ≤ y)) (fun a b c h1 h2 => by
    simp only [decide_eq_true_eq] at h1 h2 ⊢
    exact List.le_trans h1 h2) (fun a b => by
    simp only [Bool.or_eq_true, decide_eq_true_eq]
    exact List.le_total a b) l
  exact this.imp (fun h => by simpa using h)
theorem srt_self {l : List (List UInt8)} (h : l.Pairwise (fun x y => x ≤ y)) : srt l = l := List.mergeSort_of_pairwise (h.imp (fun h => by simpa using h))
theorem lt_of_ne {a b : List UInt8} (h : a ≤ b) (hn : a ≠ b) : a < b := by
  by_cases hl : a < b
  · exact hl
  · exact absurd (List.le_antisymm h hl) hn
theorem nm_up (R : List Ro) : (nmL R).Pairwise (fun x y => x < y) := by
  have h1 := srt_up (nub (R.map fun r => r.acc.data.toList))
  have h2 := nm_nd R
  exact (h1.and h2).imp (fun h => lt_of_ne h.1 h.2)
/-- the names up to one -/
def loN (R : List Ro) (la : List UInt8) : List (List UInt8) := (nmL R).filter fun k => !decide (la < k)
def hiN (R : List Ro) (la : List UInt8) : Nat := ((nmL R).filter fun k => decide (la < k)).length
theorem lo_start {R : List Ro} (h : ∀ r ∈ R, r.acc.data.toList ≠ []) : loN R [] = [] := List.filter_eq_nil_iff.2 fun k hk e => by
  obtain ⟨r, hr, rfl⟩ := nm_mem.1 hk
  cases hq : r.acc.data.toList with
  | nil => exact h r hr hq
  | cons x l =>
    rw [hq] at e
    have : ([] : List UInt8) < x :: l := List.nil_lt_cons x l
    simp [this] at e
theorem lo_end {R : List Ro} {la : List UInt8} (h : ∀ r ∈ R, ¬ la < r.acc.data.toList) : loN R la = nmL R := List.filter_eq_self.2 fun k hk => by
  obtain ⟨r, hr, rfl⟩ := nm_mem.1 hk
  simp [h r hr]
theorem lo_step {R : List Ro} {la nx : List UInt8} (hm : nx ∈ nmL R) (hl : la < nx) (h : ∀ k ∈ nmL R, la < k → ¬ k < nx) : loN R nx = loN R la ++ [nx] := by
  have hone : (nmL R).filter (fun k => decide (k = nx)) = [nx] := by
    have hnd := nm_nd R
    have key : ∀ l : List (List UInt8), l.Nodup → nx ∈ l → l.filter (fun k => decide (k = nx)) = [nx] := by
      intro l
      induction l with
      | nil => intro _ h; cases h
      | cons x l ih =>
        intro hn hx
        rw [List.nodup_cons] at hn
        rw [List.filter_cons]
        rcases List.mem_cons.1 hx with rfl | hx
        · rw [if_pos (by simp), List.filter_eq_nil_iff.2 (fun y hy e => hn.1 (by rw [← of_decide_eq_true e]; exact hy))]
        · rw [if_neg (fun e => hn.1 (by rw [of_decide_eq_true e]; exact hx)), ih hn.2 hx]
    exact key _ hnd hm
  rw [← hone]
  unfold loN
  refine filter_two (nm_up R) (fun k hk => ?_) (fun k hk hA => ?_) (fun x hx y hy hB hA hr => ?_)
  · rw [Bool.eq_iff_iff]
    simp only [Bool.not_eq_true', decide_eq_false_iff_not, Bool.or_eq_true, decide_eq_true_eq]
    constructor
    · intro h1
      by_cases h2 : la < k
      · have h3 := h k hk h2
        exact .inr (List.le_antisymm h1 h3)
      · exact .inl h2
    · rintro (h1 | rfl)
      · intro h2
        exact h1 (List.lt_trans hl h2)
      · exact List.lt_irrefl _
  · simp only [Bool.not_eq_true', decide_eq_false_iff_not] at hA ⊢
    rintro rfl
    exact hA hl
  · simp only [Bool.not_eq_true', decide_eq_false_iff_not, decide_eq_true_eq] at hA hB
    subst hB
    exact hA (List.lt_trans hl hr)
theorem hi_less {R : List Ro} {la nx : List UInt8} (hm : nx ∈ nmL R) (hl : la < nx) : hiN R nx < hiN R la := by
  unfold hiN
  have hsub : ∀ l : List (List UInt8), (l.filter fun k => decide (nx < k)).length ≤ (l.filter fun k => decide (la < k)).length := fun l => by
    induction l with
    | nil => simp
    | cons x l ih =>
      rw [List.filter_cons, List.filter_cons]
      by_cases hx : nx < x
      · rw [if_pos (by simpa using hx), if_pos (by simpa using List.lt_trans hl hx)]
        simp only [List.length_cons]; omega
      · rw [if_neg (by simpa using hx)]
        split
        · simp only [List.length_cons]; omega
        · exact ih
  have key : ∀ l : List (List UInt8), nx ∈ l → (l.filter fun k => decide (nx < k)).length < (l.filter fun k => decide (la < k)).length := fun l => by
    induction l with
    | nil => intro h; cases h
    | cons x l ih =>
      intro hx
      rw [List.filter_cons, List.filter_cons]
      rcases List.mem_cons.1 hx with rfl | hx
      · rw [if_neg (by simp [List.lt_irrefl nx]), if_pos (by simpa using hl)]
        have := hsub l
        simp only [List.length_cons]; omega
      · have := ih hx
        by_cases h2 : nx < x
        · rw [if_pos (by simpa using h2), if_pos (by simpa using List.lt_trans hl h2)]
          simp only [List.length_cons]; omega
        · rw [if_neg (by simpa using h2)]
          split
          · simp only [List.length_cons]; omega
          · exact this
  exact key _ hm
/-- which name the inner loop has found -/
def Nn (R : List Ro) (la : List UInt8) (i : Nat) (nx : ByteArray) : Prop :=
  (nx = ⟨#[]⟩ ∧ ∀ (j : Nat) (r : Ro), R[j]? = some r → j < i → ¬ la < r.acc.data.toList) ∨
  (∃ (j0 : Nat) (r0 : Ro), R[j0]? = some r0 ∧ j0 < i ∧ nx = r0.acc ∧ la < r0.acc.data.toList ∧ ∀ (j : Nat) (r : Ro), R[j]? = some r → j < i → la < r.acc.data.toList → ¬ r.acc.data.toList < r0.acc.data.toList)
theorem Nn.start (R : List Ro) (la : List UInt8) : Nn R la 0 ⟨#[]⟩ := .inl ⟨rfl, fun j _ _ h => by omega⟩
theorem Nn.stay {R : List Ro} {la : List UInt8} {i : Nat} {nx : ByteArray} {x : Ro} (h : Nn R la i nx) (hi : R[i]? = some x) (hn : ¬ la < x.acc.data.toList) : Nn R la (i + 1) nx := by
  rcases h with ⟨h1, h2⟩ | ⟨j0, r0, h0, h1, h2, h3, h4⟩
  · refine .inl ⟨h1, fun j r hj hji => ?_⟩
    by_cases e : j = i
    · subst e; rw [hi] at hj; cases hj; exact hn
    · exact h2 j r hj (by omega)
  · refine .inr ⟨j0, r0, h0, by omega, h2, h3, fun j r hj hji hin => ?_⟩
    by_cases e : j = i
    · subst e; rw [hi] at hj; cases hj; exact absurd hin hn
    · exact h4 j r hj (by omega) hin
theorem Nn.take {R : List Ro} {la : List UInt8} {i : Nat} {nx : ByteArray} {x : Ro} (h : Nn R la i nx) (hi : R[i]? = some x) (hn : la < x.acc.data.toList) (hne : nx = ⟨#[]⟩ ∨ x.acc.data.toList < nx.data.toList) (hz : ∀ r ∈ R, r.acc ≠ ⟨#[]⟩) : Nn R la (i + 1) x.acc := by
  refine .inr ⟨i, x, hi, by omega, rfl, hn, fun j r hj hji hin => ?_⟩
  by_cases e : j = i
  · subst e; rw [hi] at hj; cases hj; exact List.lt_irrefl _
  · rcases h with ⟨h1, h2⟩ | ⟨j0, r0, h0, h1, h2, h3, h4⟩
    · exact absurd hin (h2 j r hj (by omega))
    · rcases hne with hne | hne
      · exact absurd (h2.symm.trans hne) (hz r0 (List.mem_of_getElem? h0))
      · rw [h2] at hne
        intro hlt
        exact h4 j r hj (by omega) hin (List.lt_trans hlt hne)
theorem Nn.keep {R : List Ro} {la : List UInt8} {i : Nat} {nx : ByteArray} {x : Ro} (h : Nn R la i nx) (hi : R[i]? = some x) (hne : nx ≠ ⟨#[]⟩) (hle : ¬ x.acc.data.toList < nx.data.toList) : Nn R la (i + 1) nx := by
  rcases h with ⟨h1, _⟩ | ⟨j0, r0, h0, h1, h2, h3, h4⟩
  · exact absurd h1 hne
  · refine .inr ⟨j0, r0, h0, by omega, h2, h3, fun j r hj hji hin => ?_⟩
    by_cases e : j = i
    · subst e; rw [hi] at hj; cases hj; rw [← h2]; exact hle
    · exact h4 j r hj (by omega) hin
def strOf : Value → List UInt8
  | .string s => s.data.toList
  | _ => []
theorem empty_iff (a : ByteArray) : a.toList.isEmpty = decide (a = ⟨#[]⟩) := by
  rw [ByteArray.toList_eq, Bool.eq_iff_iff]
  simp only [List.isEmpty_iff, decide_eq_true_eq]
  constructor
  · intro h
    cases a with
    | mk d => simp only [ByteArray.mk.injEq]; exact Array.toList_eq_nil_iff.1 h
  · intro h; rw [h]
theorem btw_all {S : List Mk} (h : ∀ m ∈ S, 1 ≤ m.1 ∧ m.1 ≤ 3652059) : btw S 1 3652059 = S := List.filter_eq_self.2 fun m hm => by
  have := h m hm
  simp [this.1, this.2]
theorem ser_days {R : List Ro} (hd : ∀ r ∈ R, 1 ≤ r.day ∧ r.day ≤ 3652059) {k : List UInt8} {S : List Mk} (h : Ser (tol R k) S) : ∀ m ∈ S, 1 ≤ m.1 ∧ m.1 ≤ 3652059 := fun m hm => by
  obtain ⟨e1, e2, _⟩ := h.is m hm
  rw [e1] at e2
  have hk : (⟨k.toArray⟩ : ByteArray).data.toList = k := by simp
  rw [← hk] at e2
  obtain ⟨r, hr, _, e⟩ := own_row e2
  rw [← e]
  exact hd r hr
/-- what State tells -/
def stD (R : List Ro) (F : List UInt8 → List Mk) : List Dq := (stl F (nmL R)).map toQ
theorem stl_app (F : List UInt8 → List Mk) (a b : List (List UInt8)) : stl F (a ++ b) = stl F a ++ stl F b := by simp [stl]
theorem stl_lo {R : List Ro} {F : List UInt8 → List Mk} (h : ∀ k, Ser (tol R k) (F k)) (la : List UInt8) : (stl F (loN R la)).length ≤ R.length :=
  Nat.le_trans (stl_le h _) (tol_sum R _ ((nm_nd R).filter _))
theorem rstate_any {W : World} {d : Nat} {Sb : Nat → Prop} {R : List Ro} (hR : Rd W d Sb R) {F : List UInt8 → List Mk} (hS : ∀ k, Ser (tol R k) (F k)) (hf : ∀ k, fitT (tol R k)) (hz : ∀ r ∈ R, r.acc ≠ ⟨#[]⟩) :
    Calls Tryz.prog 20 #[.pointer (some ⟨d, 0, none⟩)] W fun e w' => QlO W (stD R F) e w' := by
  obtain ⟨pn, cn, c0, hl0, _⟩ := hR.list
  have hdl : d < W.heap.size := hR.lt d hR.sd
  have hfew := hR.few
  obtain ⟨n, hn⟩ : ∃ n, n = R.length := ⟨_, rfl⟩
  rw [← hn] at c0 hfew
  have HC : Hid (∀ w', Below W.heap.size W w' → w'.cell? ⟨d, 0, none⟩ = some (.slice pn n cn)) := fun w' hb => keep1 hb hdl c0
  have HL := hide hl0; have HN := hide hn; have HR := hide hR; have HS := hide hS; have HF := hide hf; have HZ := hide hz
  clear hR hl0 hn c0 hS hf hz hdl
  go_enter Tryz.func20, Tryz.ntmps20
  go_upto_region 3 with fail
  go_loopw [3, 4] (fun v3 v4 wr => ∃ (la : ByteArray) (m : Nat) (p3 : Option Addr) (c3 : Nat), v4 = .string la ∧ v3 = .slice p3 m c3 ∧ Hid ((stl F (loN R la.data.toList)).length = m ∧ Ml kQ W wr v3 ((stl F (loN R la.data.toList)).map toQ))) (fun _ v4 _ => hiN R (strOf v4))
  case atStart => exact ⟨⟨#[]⟩, 0, none, 0, rfl, rfl, by
    have e : loN R (⟨#[]⟩ : ByteArray).data.toList = [] := lo_start fun r hr e => unhide HZ r hr (by rw [acc_iff]; exact e)
    rw [e]
    exact ⟨rfl, Ml.nil _ (Below.refl _ _)⟩⟩
  case round =>
    obtain ⟨la, m, p3, c3, rfl, rfl, hA⟩ := hrel
    obtain ⟨wo, hwo⟩ : ∃ wo, wo = wr := ⟨_, rfl⟩
    rw [← hwo] at hA ⊢
    clear hwo wr
    go_upto_region 5 with fail
    go_loopw [5, 6] (fun v5 v6 wr => ∃ (i : Nat) (nx : ByteArray), v6 = .int .i64 i ∧ v5 = .string nx ∧ i ≤ n ∧ Hid (Nn R la.data.toList i nx ∧ Below wo.heap.size wo wr)) (fun _ v6 _ => n - (intOf v6).toNat)
    case atStart => exact ⟨0, _, rfl, rfl, by omega, Nn.start R la.data.toList, Below.refl _ _⟩
    case round =>
      obtain ⟨i, nx, rfl, rfl, hi, hrel⟩ := hrel
      obtain ⟨hnx, hbel⟩ := unhide hrel
      have hbW : Below W.heap.size W wr := (unhide hA).2.bel.trans (hbel.mono (unhide hA).2.bel.size)
      have q0 := unhide HC wr hbW
      by_cases hlt : i < n
      · have hiN : i < R.length := by rw [← unhide HN]; exact hlt
        obtain ⟨b, off, e, hbl, r0, r1, r2, r3⟩ := Rd.row (unhide HL) hiN
        clear r1 r2 r3
        obtain ⟨x, hx⟩ : ∃ x, x = R[i] := ⟨_, rfl⟩
        rw [← hx] at r0
        have HX : Hid (R[i]? = some x) := by rw [hx]; exact List.getElem?_eq_getElem hiN
        obtain ⟨xs, hxs⟩ : ∃ y, y = x.acc := ⟨_, rfl⟩
        rw [← hxs] at r0
        have k0 : wr.cell? ⟨b, off + i * 4, none⟩ = some (.string xs) := keep1 hbW hbl r0
        subst e
        have hI : (i : Int) < (n : Int) := by omega
        have hI0 : (0 : Int) ≤ (i : Int) := by omega
        have h1 := str_lt xs la
        have h2 := empty_iff nx
        have h3 := str_lt xs nx
        have HNX := hide hnx; have HB := hide hbel; have HXS := hide hxs
        clear hrel hnx hbel hbW hbl r0 hx hxs hiN
        by_cases c1 : la.data.toList < xs.data.toList
        · rw [decide_eq_false (List.lt_asymm c1)] at h1
          have h1' : (xs.toList == la.toList) = false := str_ne fun e => by rw [e] at c1; exact List.lt_irrefl _ c1
          by_cases c2 : nx = ⟨#[]⟩
          · rw [decide_eq_true c2] at h2
            have HF2 : Hid (Nn R la.data.toList (i + 1) xs ∧ Below wo.heap.size wo wr) := ⟨by rw [unhide HXS]; exact (unhide HNX).take (unhide HX) (by rw [← unhide HXS]; exact c1) (.inl c2) (unhide HZ), unhide HB⟩
            clear HNX HB c2 h3
            go_wp2_with fail
            go_round
            case rel => exact ⟨i + 1, xs, by push_cast; rfl, rfl, by omega, unhide HF2⟩
            case measure => simp only [intOf]; omega
          · rw [decide_eq_false c2] at h2
            by_cases c3' : xs.data.toList < nx.data.toList
            · rw [decide_eq_true c3'] at h3
              have HF2 : Hid (Nn R la.data.toList (i + 1) xs ∧ Below wo.heap.size wo wr) := ⟨by rw [unhide HXS]; exact (unhide HNX).take (unhide HX) (by rw [← unhide HXS]; exact c1) (.inr (by rw [← unhide HXS]; exact c3')) (unhide HZ), unhide HB⟩
              clear HNX HB
              go_wp2_with fail
              go_round
              case rel => exact ⟨i + 1, xs, by push_cast; rfl, rfl, by omega, unhide HF2⟩
              case measure => simp only [intOf]; omega
            · rw [decide_eq_false c3'] at h3
              have HF2 : Hid (Nn R la.data.toList (i + 1) nx ∧ Below wo.heap.size wo wr) := ⟨(unhide HNX).keep (unhide HX) c2 (by rw [← unhide HXS]; exact c3'), unhide HB⟩
              clear HNX HB
              go_wp2_with fail
              go_round
              case rel => exact ⟨i + 1, nx, by push_cast; rfl, rfl, by omega, unhide HF2⟩
              case measure => simp only [intOf]; omega
        · have HF2 : Hid (Nn R la.data.toList (i + 1) nx ∧ Below wo.heap.size wo wr) := ⟨(unhide HNX).stay (unhide HX) (by rw [← unhide HXS]; exact c1), unhide HB⟩
          clear HNX HB h2 h3
          by_cases ce : xs = la
          · have h1' : (xs.toList == la.toList) = true := by rw [ce]; simp
            rw [decide_eq_false (by rw [ce]; exact List.lt_irrefl _)] at h1
            clear ce
            go_wp2_with fail
            go_round
            case rel => exact ⟨i + 1, nx, by push_cast; rfl, rfl, by omega, unhide HF2⟩
            case measure => simp only [intOf]; omega
          · have h1' := str_ne ce
            rw [decide_eq_true (lt_of_ne c1 fun e => ce ((acc_iff _ _).2 e))] at h1
            clear ce
            go_wp2_with fail
            go_round
            case rel => exact ⟨i + 1, nx, by push_cast; rfl, rfl, by omega, unhide HF2⟩
            case measure => simp only [intOf]; omega
      · have hin : i = n := by omega
        have hI : ¬ (i : Int) < (n : Int) := by omega
        have hml := (unhide hA).2.below hbel
        have hln := (unhide hA).1
        have hall : ∀ (j : Nat) (r : Ro), R[j]? = some r → j < i := fun j r hj => by
          have := (List.getElem?_eq_some_iff.1 hj).1
          rw [hin, unhide HN]; exact this
        have h2 := empty_iff nx
        rcases hnx with ⟨rfl, hno⟩ | ⟨j0, r0, h0, h1, rfl, h3, h4⟩
        · rw [decide_eq_true rfl] at h2
          have HO : Hid (QlO W (stD R F) (.returned (.slice p3 m c3)) wr) := by
            have e : loN R la.data.toList = nmL R := lo_end fun r hr => by
              obtain ⟨j, hj⟩ := List.getElem?_of_mem hr
              exact hno j r hj (hall j r hj)
            rw [e] at hml hln
            have e4 : (stD R F).length = m := by unfold stD; rw [List.length_map]; exact hln
            unfold QlO
            rw [e4]
            exact ⟨p3, c3, rfl, hml⟩
          clear hrel hA hml hall hno hbel hbW hln
          go_wp2_with fail
          go_ret
          exact unhide HO
        · have hr0 : r0 ∈ R := List.mem_of_getElem? h0
          have hne : r0.acc ≠ ⟨#[]⟩ := unhide HZ r0 hr0
          rw [decide_eq_false hne] at h2
          obtain ⟨nx, hnx⟩ : ∃ y, y = r0.acc := ⟨_, rfl⟩
          rw [← hnx] at h2 h3 ⊢
          have hmem : nx.data.toList ∈ nmL R := nm_mem.2 ⟨r0, hr0, by rw [hnx]⟩
          have hstep : loN R nx.data.toList = loN R la.data.toList ++ [nx.data.toList] := lo_step hmem h3 fun k hk hl => by
            obtain ⟨r, hr, rfl⟩ := nm_mem.1 hk
            obtain ⟨j, hj⟩ := List.getElem?_of_mem hr
            rw [hnx]
            exact h4 j r hj (hall j r hj) hl
          have hless := hi_less hmem h3
          have hlS : (F nx.data.toList).length < 1099511627000 := by
            have a1 := ser_le (unhide HS nx.data.toList)
            have a2 := tol_len R nx.data.toList
            have := unhide HN
            omega
          have d28 := rbtw_any ((unhide HR).below hbW) nx (unhide HS _) (unhide HF _) hlS 1 3652059
          rw [btw_all (ser_days (unhide HR).dy (unhide HS _))] at d28
          obtain ⟨L, hL⟩ : ∃ L, L = (F nx.data.toList).map (mq nx) := ⟨_, rfl⟩
          rw [← hL] at d28
          have hsl : (stl F (loN R nx.data.toList)).map toQ = (stl F (loN R la.data.toList)).map toQ ++ L := by
            rw [hstep, stl_app, List.map_append, hL]
            congr 1
            simp only [stl, List.flatMap_cons, List.flatMap_nil, List.append_nil, List.map_map]
            refine List.map_congr_left fun mm _ => ?_
            simp only [Function.comp, toQ, mq]
          have hbound := stl_lo (unhide HS) nx.data.toList
          obtain ⟨l, hl⟩ : ∃ l, l = L.length := ⟨_, rfl⟩
          have hlen : (stl F (loN R nx.data.toList)).length = m + l := by
            have := congrArg List.length hsl
            rw [List.length_map, List.length_append, List.length_map, hln, ← hl] at this
            exact this
          have H28 : Hid (Calls Tryz.prog 28 #[.pointer (some ⟨d, 0, none⟩), .string nx, .int .i64 1, .int .i64 3652059] wr fun e w6 => ∃ p6 c6, e = .returned (.slice p6 l c6) ∧ ∃ p' c' w8, (Builtin.append_ #[22, 22] 22 #[.slice p3 m c3, .slice p6 l c6]).run Tryz.prog w6 = .ok (.slice p' (m + l) c') w8 ∧ (stl F (loN R nx.data.toList)).length = m + l ∧ Ml kQ W w8 (.slice p' (m + l) c') ((stl F (loN R nx.data.toList)).map toQ)) := by
            refine d28.mono ?_
            rintro e w6 ⟨p6, c6, rfl, hm6⟩
            have hm3 := hml.below hm6.bel
            have r6 := hm6.row
            rw [← hl] at r6 ⊢
            obtain ⟨p6', c6', e6, hn6, _⟩ := row_slice r6
            have ep : p6' = p6 := by injection e6 with e _ _; exact e.symm
            have ec : c6' = c6 := by injection e6 with _ _ e; exact e.symm
            subst ep ec
            have hml2 : ((stl F (loN R la.data.toList)).map toQ).length = m := by rw [List.length_map]; exact hln
            obtain ⟨p', c', w8, hr8, hm8⟩ := hm3.app kQ_ok (fun h => (hn6 h).2) (own_lies kQ_ok hl.symm r6) (by rw [hml2, ← hl]; have := unhide HN; omega) 22
            rw [hml2, ← hl] at hr8 hm8
            exact ⟨p6', c6', rfl, p', c', w8, hr8, hlen, by rw [hsl]; exact hm8⟩
          have HLS := hide hless
          clear hrel hA hml hall h4 hbel hbW hln h0 hr0 hne hnx hmem hstep hless hlS d28 hL hsl hbound hlen h1 h3 hl
          go_wp2_with (first | (go_at_call 28; refine (unhide H28).mono ?_; rintro e w6 ⟨p6, c6, rfl, p', c', w8, hr8, hl8, hm8⟩; have HR8 := hide hr8; have HM8 := hide hm8; have HL8 := hide hl8; clear hr8 hm8 hl8) | (at_builtin; refine wpList_append_run rfl _ _ 22 rfl _ _ _ _ rfl rfl (unhide HR8) ?_))
          go_round
          case rel => exact ⟨nx, m + l, p', c', rfl, rfl, unhide HL8, unhide HM8⟩
          case measure => simp only [strOf]; exact unhide HLS
end Go.Proofs.YtmgnlgobkkfjhaaGreatDoor.Kg
/- Daily, plain: State's list as a function of the rows; lists that are a state. -/
namespace Go.Proofs.YtmgnlgobkkfjhaaGreatDoor.Kg
open Go Go.RowKit Go.Shelf Go.ChangeShapes Go.WideShapes Go.ChangeAt Go.Maps
set_option linter.unusedVariables false
set_option linter.unusedSimpArgs false
set_option maxRecDepth 100000
set_option maxHeartbeats 8000000
theorem ser_ex (T : Td) : ∃ S, Ser T S := by
  let le := fun (x y : Int) => decide (x ≤ y)
  have hp := List.pairwise_mergeSort (le := le) (fun a b c h1 h2 => by simp only [le, decide_eq_true_eq] at h1 h2 ⊢; omega) (fun a b => by simp only [le, Bool.or_eq_true, decide_eq_true_eq]; omega) (nub (T.map (·.1)))
  have hm := List.mergeSort_perm (nub (T.map (·.1))) le
  have hnd : ((nub (T.map (·.1))).mergeSort le).Nodup := hm.nodup_iff.2 (nodup_nub _)
  have hup : ((nub (T.map (·.1))).mergeSort le).Pairwise (fun x y => x < y) := (hp.and hnd).imp (fun {a b} h => by
    have h1 := h.1
    have h2 := h.2
    simp only [le, decide_eq_true_eq] at h1
    omega)
  refine ⟨(((nub (T.map (·.1))).mergeSort le).filter fun d => !decide (own T d = 0)).map fun d => (d, own T d, blc T d), ⟨?_, ?_, ?_⟩⟩
  · exact List.pairwise_map.2 (hup.filter _)
  · intro m hmm
    obtain ⟨d, hd, rfl⟩ := List.mem_map.1 hmm
    have := (List.mem_filter.1 hd).2
    exact ⟨rfl, by simpa using this, rfl⟩
  · intro d hd
    refine ⟨(d, own T d, blc T d), List.mem_map.2 ⟨d, List.mem_filter.2 ⟨?_, by simpa using hd⟩, rfl⟩, rfl⟩
    rw [hm.mem_iff, mem_nub, List.mem_map]
    by_cases hx : ∃ y ∈ T, y.1 = d
    · exact hx
    · exact absurd (own_none (fun r hr e => hx ⟨r, hr, e⟩)) hd
noncomputable def serF (T : Td) : List Mk := Classical.choose (ser_ex T)
theorem serF_is (T : Td) : Ser T (serF T) := Classical.choose_spec (ser_ex T)
noncomputable def FR (R : List Ro) (k : List UInt8) : List Mk := serF (tol R k)
theorem FR_is (R : List Ro) (k : List UInt8) : Ser (tol R k) (FR R k) := serF_is _
/-- State's list -/
noncomputable def stR (R : List Ro) : List Dq := stD R (FR R)
theorem stl_filter (F : List UInt8 → List Mk) (l : List (List UInt8)) : stl F (l.filter fun k => !decide (F k = [])) = stl F l := by
  unfold stl
  induction l with
  | nil => rfl
  | cons k l ih =>
    rw [List.filter_cons, List.flatMap_cons]
    by_cases h : F k = []
    · rw [if_neg (by simp [h]), ih, h]; rfl
    · rw [if_pos (by simp [h]), List.flatMap_cons, ih]
theorem stt_is {R : List Ro} {L : List Dr} (h : Stt R L) : L.map toQ = stR R := by
  obtain ⟨F, ss, h1, h2, h3, rfl⟩ := h
  have hF : F = FR R := funext fun k => (h1 k).uniq (FR_is R k)
  subst hF
  unfold stR stD
  congr 1
  rw [← stl_filter (FR R) (nmL R)]
  congr 1
  have hp : ((nmL R).filter fun k => !decide (FR R k = [])).Pairwise (fun x y => x ≤ y) := ((nm_up R).imp (fun h => List.le_of_lt h)).filter _
  rw [← srt_self hp]
  refine srt_eq h2 ((nm_nd R).filter _) fun k => ?_
  rw [h3 k, List.mem_filter]
  constructor
  · intro hk
    refine ⟨?_, by simpa using hk⟩
    obtain ⟨r, hr, e⟩ := fk_name (FR_is R k) hk
    exact nm_mem.2 ⟨r, hr, e⟩
  · rintro ⟨_, hk⟩
    simpa using hk
theorem stR_len (R : List Ro) : (stR R).length ≤ R.length := by
  unfold stR stD
  rw [List.length_map]
  exact Nat.le_trans (stl_le (FR_is R) _) (tol_sum R _ (nm_nd R))
/-- the order of State's list -/
def ordQ (a b : Dq) : Prop := a.acc.data.toList < b.acc.data.toList ∨ (a.acc = b.acc ∧ a.day < b.day)
theorem stR_up (R : List Ro) : (stR R).Pairwise ordQ := by
  unfold stR stD stl
  rw [List.pairwise_map, List.pairwise_flatMap]
  constructor
  · intro k _
    rw [List.pairwise_map]
    exact (FR_is R k).up.imp (fun h => .inr ⟨rfl, h⟩)
  · refine (nm_up R).imp (fun {a b} h x hx y hy => ?_)
    obtain ⟨m, _, rfl⟩ := List.mem_map.1 hx
    obtain ⟨m', _, rfl⟩ := List.mem_map.1 hy
    refine .inl ?_
    show (⟨a.toArray⟩ : ByteArray).data.toList < (⟨b.toArray⟩ : ByteArray).data.toList
    simpa using h
/-- a row made of a day -/
def qR (x : Dq) : Ro := ⟨0, 0, x.day, 0, ⟨#[]⟩, x.acc, x.chg, ⟨#[]⟩, ⟨#[]⟩⟩
/-- lists that are a state -/
def Good (X : List Dq) : Prop := (∀ r ∈ X.map qR, okR r) ∧ (∀ k, fitT (tol (X.map qR) k)) ∧ stR (X.map qR) = X
theorem good_next {X : List Dq} (h : Good X) {i : Nat} {a b : Dq} (ha : X[i]? = some a) (hb : X[i + 1]? = some b) : ordQ a b := by
  have hp := stR_up (X.map qR)
  rw [h.2.2] at hp
  have h1 := List.getElem?_eq_some_iff.1 ha
  have h2 := List.getElem?_eq_some_iff.1 hb
  have := List.pairwise_iff_getElem.1 hp i (i + 1) h1.1 h2.1 (by omega)
  rw [h1.2, h2.2] at this
  exact this
theorem okR_ne {r : Ro} (h : okR r) : r.acc ≠ ⟨#[]⟩ := fun e => by
  have := h.1
  rw [e] at this
  exact absurd this (by decide)
end Go.Proofs.YtmgnlgobkkfjhaaGreatDoor.Kg
