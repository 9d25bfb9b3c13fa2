/- daily: the view by the rows that it took. -/
import Derived.Test.YtenoaechonpjgaaDoorDlX
import Derived.Test.YtenoaechonpjgaaDoorDlQ
import Derived.Test.YtenoaechonpjgaaDoorDlL
namespace Go.Proofs.YtenoaechonpjgaaDoor
open Go Go.Shelf Go.ChangeShapes Go.WideShapes Go.ChangeAt Go.RowKit Go.Maps Go.Sort
set_option linter.unusedVariables false
theorem srt_eq {a b : List (List UInt8)} (ha : a.Nodup) (hb : b.Nodup) (h : ∀ k, k ∈ a ↔ k ∈ b) : srt a = srt b := mergeSort_of_perm ((List.perm_ext_iff_of_nodup ha hb).2 h)
theorem tol_append (R S : List Ro) (k : List UInt8) : tol (R ++ S) k = tol R k ++ tol S k := by simp [tol]
theorem tol_nil (k : List UInt8) : tol [] k = [] := rfl
theorem tol_cons (r : Ro) (R : List Ro) (k : List UInt8) : tol (r :: R) k = (if r.acc.data.toList = k then [(r.day, r.amt)] else []) ++ tol R k := by
  unfold tol
  rw [List.filter_cons]
  by_cases h : r.acc.data.toList = k
  · simp [h]
  · simp [h]
/-- what rows tell of all accounts is not more than the rows -/
theorem tol_sum : ∀ (R : List Ro) (ss : List (List UInt8)), ss.Nodup → (ss.map fun k => (tol R k).length).sum ≤ R.length
  | [], ss, _ => by
    have : (ss.map fun k => (tol [] k).length) = ss.map fun _ => 0 := List.map_congr_left fun k _ => rfl
    rw [this]
    clear this
    have h : ∀ l : List (List UInt8), (l.map fun _ => 0).sum = 0 := fun l => by
      induction l with
      | nil => rfl
      | cons s l ih => rw [List.map_cons, List.sum_cons, ih]
    rw [h ss]
    exact Nat.zero_le _
  | r :: R, ss, hn => by
    have ih := tol_sum R ss hn
    have h : ∀ ss : List (List UInt8), ss.Nodup → (ss.map fun k => (tol (r :: R) k).length).sum ≤ (if r.acc.data.toList ∈ ss then 1 else 0) + (ss.map fun k => (tol R k).length).sum := by
      intro ss hn
      induction ss with
      | nil => simp
      | cons s ss ih =>
        rw [List.nodup_cons] at hn
        have h2 := ih hn.2
        simp only [List.map_cons, List.sum_cons, tol_cons r R s, List.length_append]
        by_cases e : r.acc.data.toList = s
        · rw [if_pos e, if_pos (by rw [e]; exact List.mem_cons_self)]
          rw [if_neg (by rw [e]; exact hn.1)] at h2
          simp only [List.length_singleton]
          omega
        · rw [if_neg e]
          by_cases e2 : r.acc.data.toList ∈ ss
          · rw [if_pos (List.mem_cons_of_mem _ e2)]
            rw [if_pos e2] at h2
            simp only [List.length_nil]
            omega
          · rw [if_neg e2] at h2
            rw [if_neg (fun h => by rcases List.mem_cons.1 h with h | h <;> contradiction)]
            simp only [List.length_nil]
            omega
    have h3 := h ss hn
    rw [List.length_cons]
    have : (if r.acc.data.toList ∈ ss then 1 else 0) ≤ 1 := by split <;> omega
    omega
theorem ser_le {T : Td} {S : List Mk} (h : Ser T S) : S.length ≤ T.length := by
  have := ser_len Ser.nil (M := T) (S' := S) (by rw [List.nil_append]; exact h)
  simpa using this
theorem stl_le {R : List Ro} {F : List UInt8 → List Mk} (h : ∀ k, Ser (tol R k) (F k)) : ∀ ss : List (List UInt8), (stl F ss).length ≤ (ss.map fun k => (tol R k).length).sum
  | [] => by simp [stl]
  | s :: ss => by
    have ih := stl_le h ss
    have h1 := ser_le (h s)
    have e : stl F (s :: ss) = ((F s).map fun m => (⟨s.toArray⟩, m)) ++ stl F ss := by simp [stl]
    rw [e, List.length_append, List.length_map, List.map_cons, List.sum_cons]
    omega
/-- rows that can be -/
structure Can (R : List Ro) : Prop where
  acc : ∀ r ∈ R, r.acc.size < 4611686018427387904
  amt : ∀ r ∈ R, -9223372036854775808 ≤ r.amt ∧ r.amt ≤ 9223372036854775807
theorem Can.nil : Can [] := ⟨fun r h => (by cases h), fun r h => (by cases h)⟩
theorem Can.append {R S : List Ro} (h : Can R) (k : Can S) : Can (R ++ S) :=
  ⟨fun r hr => (List.mem_append.1 hr).elim (h.acc r) (k.acc r), fun r hr => (List.mem_append.1 hr).elim (h.amt r) (k.amt r)⟩
theorem Can.sub {R S : List Ro} (h : Can R) (hs : ∀ r ∈ S, r ∈ R) : Can S := ⟨fun r hr => h.acc r (hs r hr), fun r hr => h.amt r (hs r hr)⟩
/-- the view that took these rows -/
structure Vw (W : World) (B d : Nat) (R : List Ro) : Prop where
  dv : ∃ n mo F V, Dv W B d n mo (fun k => tol R k) F V ∧ n ≤ R.length
  le : B ≤ W.heap.size
  ok : ∀ r ∈ R, okR r
  can : Can R
theorem Vw.fit {W : World} {B d : Nat} {R : List Ro} (h : Vw W B d R) (k : List UInt8) : fitT (tol R k) := by
  obtain ⟨n, mo, F, V, hD, _⟩ := h.dv
  exact hD.fit k
theorem Vw.lt {W : World} {B d : Nat} {R : List Ro} (h : Vw W B d R) : d < B := by
  obtain ⟨n, mo, F, V, hD, _⟩ := h.dv
  exact hD.at'.2.1
theorem Vw.below {W W' : World} {B d : Nat} {R : List Ro} (h : Vw W B d R) (hb : Below W.heap.size W W') : Vw W' B d R := by
  obtain ⟨n, mo, F, V, hD, hn⟩ := h.dv
  exact ⟨⟨n, mo, F, V, ⟨hD.at'.below h.le hb, hD.ser, hD.fit⟩, hn⟩, Nat.le_trans h.le hb.size, h.ok, h.can⟩
/-- the list of a state -/
def Stt (R : List Ro) (L : List Dr) : Prop := ∃ F ss, (∀ k, Ser (tol R k) (F k)) ∧ ss.Nodup ∧ (∀ k, k ∈ ss ↔ F k ≠ []) ∧ L = stl F (srt ss)
theorem Stt.same {R S : List Ro} {L M : List Dr} (h : Stt R L) (k : Stt S M) (e : ∀ n d, own (tol R n) d = own (tol S n) d) : L = M := by
  obtain ⟨F, ss, h1, h2, h3, rfl⟩ := h
  obtain ⟨G, tt, k1, k2, k3, rfl⟩ := k
  have hF : F = G := funext fun n => ((h1 n).same (e n)).uniq (k1 n)
  subst hF
  rw [srt_eq h2 k2 fun n => (h3 n).trans (k3 n).symm]
theorem Stt.len {R : List Ro} {L : List Dr} (h : Stt R L) : L.length ≤ R.length := by
  obtain ⟨F, ss, h1, h2, h3, rfl⟩ := h
  exact Nat.le_trans (stl_le h1 _) (tol_sum R _ ((srt_perm ss).nodup_iff.2 h2))
theorem fk_name {R : List Ro} {S : List Mk} {k : List UInt8} (h : Ser (tol R k) S) (hne : S ≠ []) : ∃ r ∈ R, r.acc.data.toList = k := by
  by_cases ht : tol R k = []
  · rw [ht] at h
    exact absurd (h.uniq Ser.nil) hne
  · obtain ⟨y, hy⟩ := List.exists_mem_of_ne_nil _ ht
    obtain ⟨r, hr, e, _⟩ := tol_mem hy
    exact ⟨r, hr, e⟩
/-- what Apply leaves alone -/
structure Fr (W w' : World) (B d : Nat) : Prop where
  os : w'.os = W.os
  tape : w'.tape = W.tape
  output : w'.output = W.output
  size : W.heap.size ≤ w'.heap.size
  block : ∀ g, g < W.heap.size → g ≠ d → (g < B ∨ ∃ xs t fz, W.heap[g]? = some (.cells xs t fz) ∧ t ≠ 82) → w'.heap[g]? = W.heap[g]?
theorem Fr.below {W w' : World} {B d : Nat} (h : Fr W w' B d) (hB : B ≤ W.heap.size) (hd : d < B) : Below d W w' :=
  ⟨h.os, h.tape, h.output, h.size, fun g hg => h.block g (by omega) (by omega) (.inl (by omega))⟩
theorem Fr.row {W w' : World} {B d : Nat} (h : Fr W w' B d) (hd : ∃ xs fz, W.heap[d]? = some (.cells xs 48 fz)) {b e s n : Nat} {v : Value} {xs : List Value} (hr : W.ownsRow b e s v n xs) (he : e ≠ 82) (he2 : e ≠ 48) : w'.ownsRow b e s v n xs := by
  refine row_keep hr fun g hg => ?_
  obtain ⟨_, hlt, _⟩ := row_block hr hg
  rcases hr.2 with ⟨e, _⟩ | ⟨g', cap, cur, e, hB, hh, _⟩
  · rw [e] at hg; cases hg
  · rw [e] at hg
    have hgg : g' = g := Option.some.inj hg
    subst hgg
    refine h.block g' hlt (fun e => ?_) (.inr ⟨_, _, _, hh, he⟩)
    obtain ⟨xs', fz, hd⟩ := hd
    rw [← e, hh] at hd
    injection hd with hd
    injection hd with _ h2 _
    exact he2 h2
theorem Vw.cell {W : World} {B d : Nat} {R : List Ro} (h : Vw W B d R) : ∃ xs fz, W.heap[d]? = some (.cells xs 48 fz) := by
  obtain ⟨n, mo, F, V, hD, _⟩ := h.dv
  exact ⟨_, _, hD.at'.1⟩
theorem Fr.rowV {W w' : World} {B d : Nat} {R : List Ro} (h : Fr W w' B d) (hV : Vw W B d R) {b e s n : Nat} {v : Value} {xs : List Value} (hr : W.ownsRow b e s v n xs) (he : e ≠ 82) (he2 : e ≠ 48) : w'.ownsRow b e s v n xs := h.row hV.cell hr he he2
/-- where Apply refuses -/
def Ref' (R S : List Ro) (W : World) (e : Ending) (w' : World) : Prop :=
  ¬ ((∀ r ∈ S, okR r) ∧ ∀ k, fitT (tol (R ++ S) k)) ∧ (∃ x : Int, e = .returned (.int .i64 x) ∧ (x = 1 ∨ x = 11)) ∧ Below W.heap.size W w'
/-- where it takes the rows -/
def Tak' (R S : List Ro) (W : World) (B d : Nat) (e : Ending) (w' : World) : Prop :=
  (∀ r ∈ S, okR r) ∧ e = .returned (.int .i64 0) ∧ Vw w' B d (R ++ S) ∧ Fr W w' B d
theorem apply_vw {W : World} {B d : Nat} {R S : List Ro} (hV : Vw W B d R) (hl : R.length ≤ 137438953472) {p : Option Addr} {N cR : Nat} (hN : S.length = N) (hN2 : N ≤ 8388608) (hS : Lies kR W p S) (hc : Can S) :
    Calls Tryd.prog 9 #[.pointer (some ⟨d, 0, none⟩), .slice p N cR] W fun e w' => Ref' R S W e w' ∨ Tak' R S W B d e w' := by
  obtain ⟨n, mo, F, V, hD, hn⟩ := hV.dv
  refine (apply_any hD hV.le hN hN2 hS hc.acc hc.amt (fun k => ?_) (by omega)).mono ?_
  · have h1 := ser_le (hD.ser k)
    have h2 := tol_len R k
    omega
  · rintro e w' (⟨h1, h2, h3⟩ | ⟨h1, h2, ⟨mo', n', F', V', h3, h4⟩, h5, h6, h7, h8, h9⟩)
    · refine .inl ⟨fun h => h1 ⟨h.1, fun k => ?_⟩, h2, h3⟩
      rw [← tol_append]
      exact h.2 k
    · refine .inr ⟨h1, h2, ⟨⟨n', mo', F', V', ?_, ?_⟩, Nat.le_trans hV.le h8, ?_, hV.can.append hc⟩, ⟨h5, h6, h7, h8, fun g hg hgd hx => ?_⟩⟩
      · refine ⟨h3.at', fun k => ?_, fun k => ?_⟩
        · show Ser (tol (R ++ S) k) _
          rw [tol_append]; exact h3.ser k
        · show fitT (tol (R ++ S) k)
          rw [tol_append]; exact h3.fit k
      · rw [List.length_append]; omega
      · exact fun r hr => (List.mem_append.1 hr).elim (hV.ok r) (h1 r)
      · refine h9 g hg hgd (fun k hk => ?_) ?_
        · have hr := hD.at'.2.2.row k
          have hb := (row_block hr hk).1
          rcases hx with hx | ⟨xs, t, fz, hx, ht⟩
          · omega
          · rcases hr.2 with ⟨e, _⟩ | ⟨g', cap, cur, e, hB, hh, _⟩
            · rw [e] at hk; cases hk
            · rw [e] at hk
              have hgg : g' = g := Option.some.inj hk
              subst hgg
              rw [hx] at hh
              injection hh with hh
              injection hh with _ h2 _
              exact ht h2
        · rcases hx with hx | ⟨xs, t, fz, hx, ht⟩
          · exact .inl hx
          · exact .inr fun o ho => by rw [hx] at ho; cases ho; rfl
/-- what State answers -/
def StO (R : List Ro) (W : World) (e : Ending) (w' : World) : Prop :=
  ∃ L p c, Stt R L ∧ e = .returned (.slice p L.length c) ∧ w'.ownsRow W.heap.size 44 4 (.slice p L.length c) L.length (kD.flat L) ∧ Below W.heap.size W w'
theorem state_vw {W : World} {B d : Nat} {R : List Ro} (hV : Vw W B d R) (hl : R.length ≤ 137438953472) :
    Calls Tryd.prog 10 #[.pointer (some ⟨d, 0, none⟩)] W fun e w' => StO R W e w' := by
  obtain ⟨n, mo, F, V, hD, hn⟩ := hV.dv
  refine (state_any hD.at' hV.le (by omega) (fun k hk => ?_) (fun ss hs => ?_)).mono ?_
  · obtain ⟨r, hr, rfl⟩ := fk_name (hD.ser k) hk
    have := hV.can.acc r hr
    have e : r.acc.data.toList.length = r.acc.size := by simp
    rw [e]
    unfold maxLen
    omega
  · have h1 := stl_le hD.ser ss
    have h2 := tol_sum R ss hs
    omega
  · rintro e w' ⟨ss, p, c, h1, h2, h3, h4, h5⟩
    exact ⟨_, p, c, ⟨F, ss, hD.ser, h1, h2, rfl⟩, h3, h4, h5⟩
theorem at_vw {W : World} {B d : Nat} {R : List Ro} (hV : Vw W B d R) (hl : R.length ≤ 137438953472) {s : ByteArray} (hs : s.size < 4611686018427387904) (day : Int) :
    Calls Tryd.prog 11 #[.pointer (some ⟨d, 0, none⟩), .string s, .int .i64 day] W fun e w' => e = .returned (.int .i64 (blc (tol R s.data.toList) day)) ∧ Below W.heap.size W w' := by
  obtain ⟨n, mo, F, V, hD, hn⟩ := hV.dv
  refine at_any hD.at' (by unfold maxLen; omega) (hD.ser _) ?_ day
  have h1 := ser_le (hD.ser s.data.toList)
  have h2 := tol_len R s.data.toList
  omega
theorem btw_vw {W : World} {B d : Nat} {R : List Ro} (hV : Vw W B d R) (hl : R.length ≤ 137438953472) {s : ByteArray} (hs : s.size < 4611686018427387904) {S : List Mk} (hS : Ser (tol R s.data.toList) S) (fr tt : Int) :
    Calls Tryd.prog 14 #[.pointer (some ⟨d, 0, none⟩), .string s, .int .i64 fr, .int .i64 tt] W fun e w' => BtOut W s (btw S fr tt) e w' := by
  obtain ⟨n, mo, F, V, hD, hn⟩ := hV.dv
  have e := hS.uniq (hD.ser _)
  subst e
  refine btw_any hD.at' (by unfold maxLen; omega) (hD.ser _) ?_ fr tt
  have h1 := ser_le (hD.ser s.data.toList)
  have h2 := tol_len R s.data.toList
  omega
theorem Vw.ser {W : World} {B d : Nat} {R : List Ro} (h : Vw W B d R) (k : List UInt8) : ∃ S, Ser (tol R k) S := by
  obtain ⟨n, mo, F, V, hD, hn⟩ := h.dv
  exact ⟨_, hD.ser k⟩
end Go.Proofs.YtenoaechonpjgaaDoor
