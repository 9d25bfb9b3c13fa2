import Derived.Test.YtddpladmkmpoaabDoorRinA
import Derived.Test.YtddpladmkmpoaabDoorFirD
namespace Go.Proofs.YtddpladmkmpoaabDoor
open Go.ChangeShapes Go.WideShapes Go.ChangeAt Go.RowKit
set_option linter.unusedVariables false

theorem bne_same (p : Int) : (p != p) = false := by simp
set_option maxRecDepth 100000 in
set_option maxHeartbeats 4000000 in
/-- one of the two sums is refused -/
theorem ring_bad (zs ys : Nat → Int) (a0 a1 : Option Addr) (n1 c1 n2 c2 : Nat) (w : World) (hP : Pow w) (h1 : LIn zs w a0 n1 c1) (h2 : LIn ys w a1 n2 c2) (a e b f : Int) (hA : sumSpec zs n1 = (a, e)) (hB : sumSpec ys n2 = (b, f)) (he : (e != 0) = true) (ha : a = 0) :
    Calls Tryd.prog 3 #[.slice a0 n1 c1, .slice a1 n2 c2] w fun e w' => e = .returned (.bool true) ∧ Below w.heap.size w w' := by
  have A0 := hide (first_ok w hP)
  have A1 := hide (fun W hW => msum_in h1 W hW)
  have A2 := hide (fun W hW => msum_in h2 W hW)
  rw [hA] at A1
  rw [hB] at A2
  subst ha
  clear hA hB h1 h2 hP
  go_enter Tryd.func3, Tryd.ntmps3
  go_wp2_with fail
  refine (unhide A0).mono ?_
  rintro e w1 ⟨rfl, hb1⟩
  have B1 := hide hb1
  clear hb1
  go_wp2_with fail
  refine (unhide A1 _ (unhide B1)).mono ?_
  rintro e w0 ⟨rfl, hw⟩
  rw [hw]
  clear hw w0
  go_wp2_with fail
  refine (unhide A2 _ (unhide B1)).mono ?_
  rintro e w0 ⟨rfl, hw⟩
  rw [hw]
  clear hw w0
  go_wp2
  go_ret
  exact ⟨rfl, unhide B1⟩
set_option maxRecDepth 100000 in
set_option maxHeartbeats 4000000 in
/-- the other one is refused -/
theorem ring_bad2 (zs ys : Nat → Int) (a0 a1 : Option Addr) (n1 c1 n2 c2 : Nat) (w : World) (hP : Pow w) (h1 : LIn zs w a0 n1 c1) (h2 : LIn ys w a1 n2 c2) (a e b f : Int) (hA : sumSpec zs n1 = (a, e)) (hB : sumSpec ys n2 = (b, f)) (t : Bool) (ha : (a == 0) = t) (he : e = 0) (hf : (f != 0) = true) (hb : b = 0) :
    Calls Tryd.prog 3 #[.slice a0 n1 c1, .slice a1 n2 c2] w fun e w' => e = .returned (.bool true) ∧ Below w.heap.size w w' := by
  have A0 := hide (first_ok w hP)
  have A1 := hide (fun W hW => msum_in h1 W hW)
  have A2 := hide (fun W hW => msum_in h2 W hW)
  rw [hA] at A1
  rw [hB] at A2
  subst he
  subst hb
  clear hA hB h1 h2 hP
  cases t
  all_goals
    go_enter Tryd.func3, Tryd.ntmps3
    go_wp2_with fail
    refine (unhide A0).mono ?_
    rintro e w1 ⟨rfl, hb1⟩
    have B1 := hide hb1
    clear hb1
    go_wp2_with fail
    refine (unhide A1 _ (unhide B1)).mono ?_
    rintro e w0 ⟨rfl, hw⟩
    rw [hw]
    clear hw w0
    go_wp2_with fail
    refine (unhide A2 _ (unhide B1)).mono ?_
    rintro e w0 ⟨rfl, hw⟩
    rw [hw]
    clear hw w0
    go_wp2
    go_ret
    exact ⟨rfl, unhide B1⟩
theorem cat_bd {zs ys : Nat → Int} {n m : Nat} (h1 : ∀ k, k < n → -9223372036854775808 ≤ zs k ∧ zs k ≤ 9223372036854775807) (h2 : ∀ k, k < m → -9223372036854775808 ≤ ys k ∧ ys k ≤ 9223372036854775807) : ∀ k, k < n + m → -9223372036854775808 ≤ catZ zs n ys k ∧ catZ zs n ys k ≤ 9223372036854775807 := by
  intro k hk
  by_cases h : k < n
  · rw [catZ_lt h]; exact h1 k h
  · obtain ⟨j, rfl⟩ : ∃ j, k = n + j := ⟨k - n, by omega⟩
    rw [catZ_ge]
    exact h2 j (by omega)
theorem cells_cat (zs ys : Nat → Int) (n : Nat) : ∀ m, cellsOf zs n ++ cellsOf ys m = cellsOf (catZ zs n ys) (n + m)
  | 0 => by
    rw [Nat.add_zero, show cellsOf ys 0 = [] from rfl, List.append_nil]
    exact cellsOf_ext n (fun i hi => (catZ_lt hi).symm)
  | m + 1 => by
    rw [cellsOf_succ, ← List.append_assoc, cells_cat zs ys n m, ← Nat.add_assoc, cellsOf_succ, catZ_ge]
/-- append(s, m...): what is behind it is a list like one that came in -/
theorem app2_in {w : World} {ops : Array Oper} {rest : List Oper} {o : Oper} {a : Act} {Q : Exit → Act → World → Prop} (hgd : o.guard = none) (s x : Operand)
    (ho : o.op = .call { callee := .builtin .append, args := #[s, x], argTypes := #[22, 22] }) {zs ys : Nat → Int} {w0 : World} {a1 : Option Addr} {n1 n2 c2 : Nat} (hin : LIn ys w0 a1 n2 c2) (hb : Below w0.heap.size w0 w)
    (v : Value) (hs : a.eval s = v) (hown : w.ownsRow w0.heap.size 2 1 v (0 + n1) ([] ++ cellsOf zs n1)) (hx : a.eval x = .slice a1 n2 c2) (n : Nat) (hnn : n1 + n2 = n) (hn : n ≤ 1048576) (hbd : ∀ k, k < n1 + n2 → -9223372036854775808 ≤ catZ zs n1 ys k ∧ catZ zs n1 ys k ≤ 9223372036854775807)
    (h : ∀ a3 c3 w', LIn (catZ zs n1 ys) w' a3 n c3 → Below w0.heap.size w0 w' → wpList Tryd.prog ops Q rest (a.put o.dst (.slice a3 n c3)) w') : wpList Tryd.prog ops Q (o :: rest) a w := by
  rw [Nat.zero_add, List.nil_append] at hown
  subst hnn
  refine app_in hgd s x ho hin hb v n1 _ hs hown hx (by omega) ?_
  intro v' w' h1 h2
  rw [cells_cat] at h1
  obtain ⟨a3, c3, hv3, hin3⟩ := lin_own h1 (by omega) hbd
  rw [hv3]
  exact h a3 c3 w' hin3 h2
theorem rev_bd {f : Nat → Int} {n : Nat} (h : ∀ k, k < n → -9223372036854775808 ≤ f k ∧ f k ≤ 9223372036854775807) : ∀ k, k < n → -9223372036854775808 ≤ revZ f n k ∧ revZ f n k ≤ 9223372036854775807 := fun k hk => h (n - 1 - k) (by omega)
set_option maxRecDepth 100000 in
set_option maxHeartbeats 8000000 in
/-- both sums are there -/
theorem ring_good (zs ys : Nat → Int) (a0 a1 : Option Addr) (n1 c1 n2 c2 : Nat) (w : World) (hP : Pow w) (h1 : LIn zs w a0 n1 c1) (h2 : LIn ys w a1 n2 c2) (hn : n1 + n2 ≤ 1048576) (a b p q : Int) (hA : sumSpec zs n1 = (a, 0)) (hB : sumSpec ys n2 = (b, 0)) (hpq : addSpec a b = (p, q)) :
    Calls Tryd.prog 3 #[.slice a0 n1 c1, .slice a1 n2 c2] w fun e w' => e = .returned (.bool true) ∧ Below w.heap.size w w' := by
  have z1 : (sumSpec zs n1).2 = 0 := by rw [hA]
  have z2 : (sumSpec ys n2).2 = 0 := by rw [hB]
  obtain ⟨m1, e1, l1, u1⟩ := sumSpec_ok z1
  obtain ⟨m2, e2, l2, u2⟩ := sumSpec_ok z2
  have hcat := sumSpec_cat z1 z2
  have hrev := sumSpec_rev (anyMin_cat m1 m2)
  rw [hcat, hA, hB] at hrev
  rw [hA, hB] at hcat
  simp only at hcat hrev
  rw [hpq] at hcat hrev
  rw [hA] at e1
  rw [hB] at e2
  simp only at e1 e2
  rw [← e1] at l1 u1
  rw [← e2] at l2 u2
  have bdc := cat_bd h1.bd h2.bd
  have bdr := rev_bd bdc
  have A0 := hide (first_ok w hP)
  have A1 := hide (fun W hW => msum_in h1 W hW)
  have A2 := hide (fun W hW => msum_in h2 W hW)
  have A3 := hide (fun W => madd_any a b W (by omega) (by omega) (by omega) (by omega))
  have A4 := hide (fun W => madd_any b a W (by omega) (by omega) (by omega) (by omega))
  have A5 := hide (fun W => mneg_ok a W (by omega) (by omega))
  have A6 := hide (fun W => mneg_ok (-a) W (by omega) (by omega))
  rw [Int.neg_neg] at A6
  rw [hA] at A1
  rw [hB] at A2
  rw [hpq] at A3
  rw [addSpec_comm b a, hpq] at A4
  have S7 : q = 0 → ∀ W, Calls Tryd.prog 11 #[.int .i64 p, .int .i64 b] W fun e w' => e = .returned (.tuple #[.int .i64 a, .int .i64 0]) ∧ w' = W := by
    intro hq W
    have h := sub_back l1 u1 l2 u2 (by rw [hpq]; exact hq)
    rw [hpq] at h
    simp only at h
    have := msub_any p b W (by omega) (by omega) (by omega) (by omega)
    rw [h.1] at this
    exact this
  have Q11 : (q != 0) = true → q = 11 := by
    intro hq
    have h := addSpec_two l1 l2 (by rw [hpq]; simpa using hq)
    rw [hpq] at h
    exact h
  have S7 := hide S7
  have Q11 := hide Q11
  have H1 := hide h1
  have H2 := hide h2
  have hr1 := h1.reach
  have hr2 := h2.reach
  have HCAT := hide hcat
  have HREV := hide hrev
  have BDC := hide bdc
  have BDR := hide bdr
  have hpp := bne_same p
  have hqq := bne_same q
  have haa := bne_same a
  clear bdc bdr hcat hrev z1 z2 m1 m2 e1 e2 l1 u1 l2 u2 hA hB h1 h2 hP hpq
  obtain ⟨n, hnn⟩ : ∃ n, n1 + n2 = n := ⟨_, rfl⟩
  go_enter Tryd.func3, Tryd.ntmps3
  go_wp2_with fail
  refine (unhide A0).mono ?_
  rintro e w1 ⟨rfl, hb1⟩
  have B1 := hide hb1
  clear hb1
  go_wp2_with fail
  refine (unhide A1 _ (unhide B1)).mono ?_
  rintro e w0 ⟨rfl, hw⟩
  rw [hw]
  clear hw w0
  go_wp2_with fail
  refine (unhide A2 _ (unhide B1)).mono ?_
  rintro e w0 ⟨rfl, hw⟩
  rw [hw]
  clear hw w0
  obtain ⟨i0, hi, hz0, hz1, hz2⟩ := info_parts info2r
  have HI := hide hi; have HZ0 := hide hz0; have HZ1 := hide hz1; have HZ2 := hide hz2
  clear hi hz0 hz1 hz2
  have hr3 : n ≤ 1048576 := by omega
  go_wp2_with (first | (at_builtin; refine app_in rfl _ _ rfl (unhide H1) (unhide B1) _ 0 [] rfl (World.ownsRow_nil _ _ _ _) rfl (by omega) ?_; intro v2 w2 hown2 hb2; have B2 := hide hb2; have O2 := hide hown2; clear hb2 hown2) | (at_builtin; refine app2_in rfl _ _ rfl (unhide H2) (unhide B2) v2 rfl (unhide O2) rfl n hnn hr3 (unhide BDC) ?_; intro a3 c3 w3 hin3 hb3; have B3 := hide hb3; have IN3 := hide hin3; clear hb3 hin3))
  go_loopw [10, 12] (fun v i wr => ∃ (j : Nat), j ≤ n ∧ i = .int .i64 ((j : Int) - 1) ∧ wr.ownsRow w3.heap.size 2 1 v (n - j) (cellsOf (revZ (catZ zs n1 ys) n) (n - j)) ∧ Below w3.heap.size w3 wr) (fun _ i _ => (intOf i + 1).toNat)
  case atStart => exact ⟨n, by omega, by go_num, by rw [Nat.sub_self]; exact World.ownsRow_nil _ _ _ _, Below.refl _ _⟩
  case round =>
    rename_i v wr
    obtain ⟨j, hj, rfl, hown, hbel⟩ := hrel
    have OWN := hide hown
    have BEL := hide hbel
    have hsz := hbel.size
    clear hown hbel
    by_cases hlt : 0 < j
    · obtain ⟨i, rfl⟩ : ∃ i, j = i + 1 := ⟨j - 1, by omega⟩
      have hi : (((i + 1 : Nat) : Int) - 1) = (i : Int) := by omega
      rw [hi]
      obtain ⟨g, off, ha3, hg, hc3, hcells⟩ : ∃ b off, a3 = some ⟨b, off, none⟩ ∧ b < w3.heap.size ∧ n ≤ c3 ∧ ∀ k, k < n → w3.cell? ⟨b, off + k, none⟩ = some (.int .i64 (catZ zs n1 ys k)) := by
        rcases (unhide IN3).at' with ⟨h, _⟩ | h
        · omega
        · exact h
      have hck : wr.cell? ⟨g, off + i, none⟩ = some (.int .i64 (catZ zs n1 ys i)) := by
        rw [(unhide BEL).cell (show (⟨g, off + i, none⟩ : Addr).block < w3.heap.size from hg)]
        exact hcells i (by omega)
      obtain ⟨z, hz⟩ : ∃ z, catZ zs n1 ys i = z := ⟨_, rfl⟩
      rw [hz] at hck
      have HZ := hide hz
      have hb0 : (0 : Int) ≤ (i : Int) := by omega
      have hb1 : (i : Int) < (n : Int) := by omega
      rw [ha3]
      clear hcells hc3 hg ha3 hi hz
      go_wp2_with (at_builtin; refine wpList_append_own _ rfl _ _ 22 rfl w3.heap.size 2 i0 (.int .i64 0) 1 8 Tryd.underlying22 (unhide HI) (unhide HZ0) (unhide HZ1) (unhide HZ2) rfl (by decide) _ _ _ rfl ((unhide OWN).alloc _) ⟨wr.heap.size, 0, none⟩ 1 1 [.int .i64 z] rfl rfl (cell_one_new _ _ _) (by intro u hu; simp at hu; subst hu; rfl) (by unfold maxLen; omega) (by omega) (by simp; omega) ?_; intro v1 w2 hown1 hgrow1 _)
      have BB := hide (Below.grown (bal (unhide BEL) _) hgrow1 (by simp; omega) (fun j hj => ((unhide OWN).lt j hj).1))
      have OO := hide hown1
      clear hown1 hgrow1
      go_wp2
      go_roundw
      case rel =>
        refine ⟨i, by omega, by go_num, ?_, unhide BB⟩
        have h := unhide OO
        have e : n - i = (n - (i + 1)) + 1 := by omega
        rw [e, cellsOf_succ, show revZ (catZ zs n1 ys) n (n - (i + 1)) = z from by rw [← unhide HZ]; unfold revZ; congr 1; omega]
        exact h
      case measure => simp [intOf]
    · have hj0 : j = 0 := by omega
      subst hj0
      obtain ⟨a4, c4, hv4, hin4⟩ := lin_own (unhide OWN) (by omega) (fun k hk => by have h := unhide BDR k (by omega); rw [hnn] at h; exact h)
      have IN4 := hide hin4
      clear hin4 OWN
      rw [hv4]
      have B4 := hide ((unhide B3).trans ((unhide BEL).mono (unhide B3).size))
      have A8 := hide (msum_in (unhide IN3) wr (unhide BEL))
      have A9 := hide (msum_in (unhide IN4) wr (Below.refl _ _))
      have hc := unhide HCAT
      have hr := unhide HREV
      rw [hnn] at hc hr
      rw [hc] at A8
      rw [Nat.sub_zero, hr] at A9
      clear hc hr HCAT HREV BDC BDR BEL B3 B1 IN3 IN4
      go_wp2_with fail
      refine (unhide A3 _).mono ?_
      rintro e w0 ⟨rfl, hw⟩
      rw [hw]
      clear hw w0
      go_wp2_with fail
      refine (unhide A4 _).mono ?_
      rintro e w0 ⟨rfl, hw⟩
      rw [hw]
      clear hw w0
      go_wp2_with fail
      refine (unhide A8).mono ?_
      rintro e w0 ⟨rfl, hw⟩
      rw [hw]
      clear hw w0
      go_wp2_with fail
      refine (unhide A9).mono ?_
      rintro e w0 ⟨rfl, hw⟩
      rw [hw]
      clear hw w0
      go_wp2_with fail
      refine (unhide A5 _).mono ?_
      rintro e w0 ⟨rfl, hw⟩
      rw [hw]
      clear hw w0
      go_wp2_with fail
      refine (unhide A6 _).mono ?_
      rintro e w0 ⟨rfl, hw⟩
      rw [hw]
      clear hw w0
      by_cases hq : (q != 0) = true
      · obtain rfl := unhide Q11 hq
        go_wp2
        go_ret
        exact ⟨rfl, unhide B4⟩
      · have hq0 : q = 0 := by simpa using hq
        have A7 := hide (unhide S7 hq0)
        subst hq0
        go_wp2_with fail
        refine (unhide A7 _).mono ?_
        rintro e w0 ⟨rfl, hw⟩
        rw [hw]
        clear hw w0
        go_wp2
        go_ret
        exact ⟨rfl, unhide B4⟩
/-- the law -/
theorem ring_walk (zs ys : Nat → Int) (a0 a1 : Option Addr) (n1 c1 n2 c2 : Nat) (w : World) (hP : Pow w) (h1 : LIn zs w a0 n1 c1) (h2 : LIn ys w a1 n2 c2) (hn : n1 + n2 ≤ 1048576) :
    Calls Tryd.prog 3 #[.slice a0 n1 c1, .slice a1 n2 c2] w fun e w' => e = .returned (.bool true) ∧ Below w.heap.size w w' := by
  obtain ⟨a, e, hA⟩ : ∃ a e, sumSpec zs n1 = (a, e) := ⟨_, _, rfl⟩
  obtain ⟨b, f, hB⟩ : ∃ b f, sumSpec ys n2 = (b, f) := ⟨_, _, rfl⟩
  by_cases he : e = 0
  · by_cases hf : f = 0
    · subst he
      subst hf
      exact ring_good zs ys a0 a1 n1 c1 n2 c2 w hP h1 h2 hn a b _ _ hA hB rfl
    · have hb : b = 0 := by have := sumSpec_err (zs := ys) (n := n2) (by rw [hB]; exact hf); rw [hB] at this; exact this
      exact ring_bad2 zs ys a0 a1 n1 c1 n2 c2 w hP h1 h2 a e b f hA hB _ rfl he (by simpa using hf) hb
  · have ha : a = 0 := by have := sumSpec_err (zs := zs) (n := n1) (by rw [hA]; exact he); rw [hA] at this; exact this
    exact ring_bad zs ys a0 a1 n1 c1 n2 c2 w hP h1 h2 a e b f hA hB (by simpa using he) ha
end Go.Proofs.YtddpladmkmpoaabDoor
