/- disk: New (21), Fuse (34), look (46), Size (35). -/
import Derived.Test.YtpeohbkigkfcgaaDkI
namespace Go.Proofs.Ytpeohbkigkfcgaa
open Go Go.Shelf Go.ChangeShapes Go.WideShapes Go.ChangeAt Go.RowKit
set_option linter.unusedVariables false
def canBe (lo x : Int) : Bool := decide (lo ≤ x) && decide (x ≤ 1048576)
set_option maxRecDepth 100000 in
set_option maxHeartbeats 4000000 in
theorem capacity_ok (x : Int) (w : World) : Calls Try.prog 39 #[.int .i64 x] w fun e w' => e = .returned (.bool (canBe 0 x)) ∧ w' = w := by
  unfold canBe
  by_cases h1 : 0 ≤ x <;> by_cases h2 : x ≤ 1048576
  all_goals
    first | rw [decide_eq_true h1] | rw [decide_eq_false h1]
    first | rw [decide_eq_true h2] | rw [decide_eq_false h2]
    go_enter Try.func39, Try.ntmps39
    go_wp2
    go_ret
    exact ⟨rfl, rfl⟩
set_option maxRecDepth 100000 in
set_option maxHeartbeats 4000000 in
theorem fuseCan_ok (x : Int) (w : World) : Calls Try.prog 52 #[.int .i64 x] w fun e w' => e = .returned (.bool (canBe (-1) x)) ∧ w' = w := by
  unfold canBe
  by_cases h1 : -1 ≤ x <;> by_cases h2 : x ≤ 1048576
  all_goals
    first | rw [decide_eq_true h1] | rw [decide_eq_false h1]
    first | rw [decide_eq_true h2] | rw [decide_eq_false h2]
    go_enter Try.func52, Try.ntmps52
    go_wp2
    go_ret
    exact ⟨rfl, rfl⟩
/-- an empty disk, just made -/
theorem new_is (x : Int) (w : World) (f : Int) (b : Bool) : DiskIs (w.alloc (.cells #[.int .i64 x, .map none, .int .i64 f, .bool b] 64)) w.heap.size 0 ⟨x, [], f, b⟩ (fun q => q = w.heap.size) none 0 [] :=
  ⟨⟨by simp, by simp, by simp, by simp, .inl ⟨rfl, rfl⟩⟩, ⟨.nil, .nil⟩, Nat.le_refl _, fun b hb => (by cases hb), fun e he => (by cases he), fun e he => (by cases he), fun j => by simp, rfl, fun q hq => by subst hq; simp⟩
set_option maxRecDepth 100000 in
set_option maxHeartbeats 4000000 in
theorem new_ok (x : Int) (hx : canBe 0 x = true) (w : World) : Calls Try.prog 21 #[.int .i64 x] w fun e w' => e = .returned (.tuple #[.pointer (some ⟨w.heap.size, 0, none⟩), .int .i64 0]) ∧ DiskOK w' w.heap.size 0 ⟨x, [], -1, false⟩ (fun q => q = w.heap.size) ∧ Below w.heap.size w w' := by
  go_enter Try.func21, Try.ntmps21
  go_wp2_with (first | (go_at_call 39; refine (capacity_ok x _).mono ?_; rintro e w' ⟨rfl, hw⟩; rw [hw, hx]; clear hw w'))
  go_ret2
  refine ⟨rfl, ⟨none, 0, [], new_is x w (-1) false⟩, (Below.refl _ w).alloc (Nat.le_refl _) _⟩
/-- what Fuse answers -/
def fuseK (K : Dk) (x : Int) : Dk × Int := if canBe (-1) x = false then (K, 1) else if K.down = true then (K, 34) else ({ K with fuse := x }, 0)
set_option maxRecDepth 100000 in
set_option maxHeartbeats 4000000 in
theorem fuse_ok {w : World} {d N n : Nat} {K : Dk} {S : Nat → Prop} {mo : Option Nat} {es : List (Lit × DataW Value)} (h : DiskIs w d N K S mo n es) (x : Int) :
    Calls Try.prog 34 #[.pointer (some ⟨d, 0, none⟩), .int .i64 x] w fun e w' => e = .returned (.int .i64 (fuseK K x).2) ∧ DiskOK w' d N (fuseK K x).1 S ∧ Sep w w' S S := by
  have c3 := h.at'.c3
  have c2 := h.at'.c2
  have f2 := h.fz 2
  have HD := hide h
  have HSD := hide h.sd
  clear h
  cases hx : canBe (-1) x with
  | false =>
    have hk : fuseK K x = (K, 1) := by unfold fuseK; rw [if_pos hx]
    rw [hk]
    go_enter Try.func34, Try.ntmps34
    go_wp2_with (first | (go_at_call 52; refine (fuseCan_ok x _).mono ?_; rintro e w' ⟨rfl, hw⟩; rw [hw, hx]; clear hw w'))
    go_ret
    exact ⟨rfl, ⟨mo, n, es, unhide HD⟩, Sep.refl _ _⟩
  | true =>
    cases hd : K.down with
    | true =>
      have hk : fuseK K x = (K, 34) := by unfold fuseK; rw [if_neg (by rw [hx]; simp), if_pos hd]
      rw [hk]
      rw [hd] at c3
      go_enter Try.func34, Try.ntmps34
      go_wp2_with (first | (go_at_call 52; refine (fuseCan_ok x _).mono ?_; rintro e w' ⟨rfl, hw⟩; rw [hw, hx]; clear hw w'))
      go_ret
      exact ⟨rfl, ⟨mo, n, es, unhide HD⟩, Sep.refl _ _⟩
    | false =>
      have hk : fuseK K x = ({ K with fuse := x }, 0) := by unfold fuseK; rw [if_neg (by rw [hx]; simp), if_neg (by rw [hd]; simp)]
      rw [hk]
      rw [hd] at c3
      go_enter Try.func34, Try.ntmps34
      go_wp2_with (first | (go_at_call 52; refine (fuseCan_ok x _).mono ?_; rintro e w' ⟨rfl, hw⟩; rw [hw, hx]; clear hw w'))
      go_ret
      exact ⟨rfl, ⟨mo, n, es, (unhide HD).fuse x⟩, Sep.cell w S d 2 _ (unhide HSD)⟩
/-- what Size answers -/
def sizeK (s : ByteArray) (K : Dk) : Int × Int := if K.down = true then (0, 34) else (if erF s K = 0 then (lenF K.A s.data.toList : Int) else 0, erF s K)
set_option maxRecDepth 100000 in
set_option maxHeartbeats 4000000 in
theorem look_ok {w : World} {d N n : Nat} {K : Dk} {S : Nat → Prop} {mo : Option Nat} {es : List (Lit × DataW Value)} (h : DiskIs w d N K S mo n es) (s : ByteArray) (hs : s.size ≤ maxLen) :
    Calls Try.prog 46 #[.pointer (some ⟨d, 0, none⟩), .string s] w fun e w' => (∃ p m c y er, e = .returned (.tuple #[.agg #[.slice p m c, .int .i64 y], .int .i64 er]) ∧ (m : Int) = (sizeK s K).1 ∧ er = (sizeK s K).2) ∧ Below w.heap.size w w' := by
  have c3 := h.at'.c3
  have hdl := h.at'.lt
  have HD := hide h
  clear h
  cases hd : K.down with
  | true =>
    rw [hd] at c3
    have hk : sizeK s K = (0, 34) := by unfold sizeK; rw [if_pos hd]
    rw [hk]
    go_enter Try.func46, Try.ntmps46
    go_wp2_with fail
    refine bodyPost_ret (ret_file (b := w.heap.size) (p := none) (n := 0) (c := 0) (y := 0) (er := .int .i64 34) (by go_simp) (by go_simp) rfl rfl) rfl ?_
    exact ⟨⟨none, 0, 0, 0, 34, rfl, rfl, rfl⟩, bal (Below.refl w.heap.size w) _⟩
  | false =>
    rw [hd] at c3
    obtain ⟨R, hR⟩ : ∃ R, R = sizeK s K := ⟨_, rfl⟩
    have hk : R = (if erF s K = 0 then (lenF K.A s.data.toList : Int) else 0, erF s K) := by rw [hR]; unfold sizeK; rw [if_neg (by rw [hd]; simp)]
    rw [← hR]
    have HK := hide hk
    clear hk hR
    have B0 : Hid (Below w.heap.size w (w.alloc (.cells #[.slice none 0 0, .int .i64 0] 67))) := bal (Below.refl w.heap.size w) _
    go_enter Try.func46, Try.ntmps46
    go_wp2_with fail
    refine (find_ok ((unhide HD).below (unhide B0)) s hs).mono ?_
    rintro e w1 ⟨⟨p, m, c, y, er, rfl, hfo⟩, hb1⟩
    have hm : Hid ((m : Int) = R.1 ∧ er = R.2) := by
      rw [unhide HK]
      refine ⟨?_, hfo.1⟩
      by_cases he : erF s K = 0
      · obtain ⟨x, hh⟩ := hfo.2.2 (hfo.1.trans he)
        rw [if_pos he, hh.len]
        simp [lenF, hh.get]
      · have := hfo.2.1 (by rw [hfo.1]; exact he)
        rw [if_neg he, this.2.1]
        rfl
    have c0 : w1.cell? ⟨w.heap.size, 0, none⟩ = some (.slice none 0 0) := (hb1.cell (p := ⟨w.heap.size, 0, none⟩) (by simp)).trans (by simp)
    have c1 : w1.cell? ⟨w.heap.size, 1, none⟩ = some (.int .i64 0) := (hb1.cell (p := ⟨w.heap.size, 1, none⟩) (by simp)).trans (by simp)
    have f0 : w1.frozen? ⟨w.heap.size, 0, none⟩ = false := (hb1.frozen (p := ⟨w.heap.size, 0, none⟩) (by simp)).trans (by simp)
    have f1 : w1.frozen? ⟨w.heap.size, 1, none⟩ = false := (hb1.frozen (p := ⟨w.heap.size, 1, none⟩) (by simp)).trans (by simp)
    have B1 : Hid (Below w.heap.size w w1) := (unhide B0).trans (hb1.mono (by simp))
    clear hfo hb1
    go_wp2_with fail
    refine bodyPost_ret (ret_file (b := w.heap.size) (p := p) (n := m) (c := c) (y := y) (er := .int .i64 er) (by go_simp) (by go_simp) rfl rfl) rfl ?_
    exact ⟨⟨p, m, c, y, er, rfl, (unhide hm).1, (unhide hm).2⟩, ((unhide B1).setCell (p := ⟨w.heap.size, 0, none⟩) (Nat.le_refl _) _).setCell (p := ⟨w.heap.size, 1, none⟩) (Nat.le_refl _) _⟩
set_option maxRecDepth 100000 in
set_option maxHeartbeats 4000000 in
theorem size_ok {w : World} {d N n : Nat} {K : Dk} {S : Nat → Prop} {mo : Option Nat} {es : List (Lit × DataW Value)} (h : DiskIs w d N K S mo n es) (s : ByteArray) (hs : s.size ≤ maxLen) :
    Calls Try.prog 35 #[.pointer (some ⟨d, 0, none⟩), .string s] w fun e w' => e = .returned (.tuple #[.int .i64 (sizeK s K).1, .int .i64 (sizeK s K).2]) ∧ Below w.heap.size w w' := by
  have HD := hide h
  obtain ⟨R, hR⟩ : ∃ R, R = sizeK s K := ⟨_, rfl⟩
  have HR := hide hR
  rw [← hR]
  clear h hR
  go_enter Try.func35, Try.ntmps35
  go_wp2_with fail
  refine (look_ok (unhide HD) s hs).mono ?_
  rintro e w1 ⟨⟨p, m, c, y, er, rfl, h1, h2⟩, hb1⟩
  rw [← unhide HR] at h1 h2
  have H1 := hide h1; have H2 := hide h2; have HB := hide hb1
  clear h1 h2 hb1
  go_wp2_with fail
  go_ret2
  refine ⟨?_, (unhide HB).alloc (unhide HB).size _⟩
  rw [← unhide H1, ← unhide H2]
  try rfl
end Go.Proofs.Ytpeohbkigkfcgaa
