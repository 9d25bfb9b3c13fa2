import Derived.Test.YtbenciieenbmeaaGreatDoorW01
import Derived.Deep.DeepAppendWide
import Derived.Test.YtbenciieenbmeaaGreatDoorProg
import Derived.WalkKit
import Derived.ProofKit
import Derived.OpenShut
import Derived.WalkLawsBesides
import Derived.BigCall
import Derived.Lib.LaidTab
import Derived.Below
/- typing: kinds of elements; lists being made; typeAt 49, isShown 52. -/
namespace Go.Proofs.YtbenciieenbmeaaGreatDoor
open Go Go.Shelf Go.ChangeShapes Go.WideShapes Go.ChangeAt Go.RowKit Go.Maps
set_option linter.unusedVariables false
/-- a node of a query -/
structure Nd where
  op : Int
  left : Int
  right : Int
  field : Int
  num : Int
  text : ByteArray
def Nd.vals (x : Nd) : List Value := [.int .i64 x.op, .int .i64 x.left, .int .i64 x.right, .int .i64 x.field, .int .i64 x.num, .string x.text]
def Nd.val (x : Nd) : Value := .agg #[.int .i64 x.op, .int .i64 x.left, .int .i64 x.right, .int .i64 x.field, .int .i64 x.num, .string x.text]
def kI : Kd Int := ⟨fun x => [.int .i64 x], 1, 23, 3, 8⟩
def kN : Kd Nd := ⟨Nd.vals, 6, 22, 51, 56⟩
def kG : Kd (Int × Int) := ⟨fun x => [.int .i64 x.1, .int .i64 x.2], 2, 24, 56, 16⟩
def kO : Kd (Int × Bool) := ⟨fun x => [.int .i64 x.1, .bool x.2], 2, 25, 70, 16⟩
theorem kI_ok : KdOK kI := kd_ok (fun _ => rfl) (by decide) (fun x u hu => by simp [kI] at hu; subst hu; rfl) Tryz.underlying23 (z := .int .i64 0) (by kernel_rfl) rfl (by decide)
theorem kN_ok : KdOK kN := kd_ok (fun _ => rfl) (by decide) (fun x u hu => by simp [kN, Nd.vals] at hu; rcases hu with rfl | rfl | rfl | rfl | rfl | rfl <;> rfl) Tryz.underlying22 (z := .agg #[.int .i64 0, .int .i64 0, .int .i64 0, .int .i64 0, .int .i64 0, .string ⟨#[]⟩]) (by kernel_rfl) rfl (by decide)
theorem kG_ok : KdOK kG := kd_ok (fun _ => rfl) (by decide) (fun x u hu => by simp [kG] at hu; rcases hu with rfl | rfl <;> rfl) Tryz.underlying24 (z := .agg #[.int .i64 0, .int .i64 0]) (by kernel_rfl) rfl (by decide)
theorem kO_ok : KdOK kO := kd_ok (fun _ => rfl) (by decide) (fun x u hu => by simp [kO] at hu; rcases hu with rfl | rfl <;> rfl) Tryz.underlying25 (z := .agg #[.int .i64 0, .bool false]) (by kernel_rfl) rfl (by decide)
variable {α : Type} {K : Kd α}
/-- an append of elements that lie somewhere, however many there are -/
theorem run_appW (hK : KdOK K) {W : World} {B : Nat} {v : Value} {L M : List α} {n : Nat} (ty : TypeId) (h : W.ownsRow B K.e K.s v n (K.flat L)) (hB : B ≤ W.heap.size) (pu : Option Addr) (cu : Nat) (hcu : pu = none → cu = 0) (hu : Lies K W pu M) (hl : n + M.length ≤ 70000000000000) (hb : (n + M.length + (n + M.length) / 4 + 192) * K.by' ≤ 281474976710656) :
    ∃ p' c' w', (Builtin.append_ #[K.t, K.t] ty #[v, .slice pu M.length cu]).run Tryz.prog W = .ok (.slice p' (n + M.length) c') w' ∧ w'.ownsRow B K.e K.s (.slice p' (n + M.length) c') (n + M.length) (K.flat (L ++ M)) ∧ Below B W w' := by
  obtain ⟨i, z, hi, hz, hsize, hby, hzs⟩ := hK.info
  cases pu with
  | none =>
    have hR := hu.1 rfl
    subst hR
    rw [hcu rfl]
    have hr := run_append_owned_none (P := Tryz.prog) (w := W) B K.t ty K.e i K.s hK.und hi v n (K.flat L) h
    obtain ⟨p, c, e, _⟩ := row_slice h
    subst e
    exact ⟨p, c, W, hr, by rw [List.append_nil]; exact h, Below.refl _ _⟩
  | some ad =>
    obtain ⟨v', w', hr, ho, hg, hnil⟩ := run_append_own_wide (P := Tryz.prog) W B K.t ty K.e i z K.s K.by' hK.und hi hz hsize hby hzs hK.pos v n (K.flat L) h ad M.length cu (K.flat M) (flat_len hK M) (news_of hK hu) (flat_one hK M) (by unfold maxLen; omega) hb hB
    have ho2 : w'.ownsRow B K.e K.s v' (n + M.length) (K.flat (L ++ M)) := by rw [flat_append]; exact ho
    obtain ⟨p, c, e, _⟩ := row_slice ho2
    subst e
    refine ⟨p, c, w', hr, ho2, ⟨hg.os, hg.tape, hg.output, hg.size, fun q hq => hg.block q (Nat.lt_of_lt_of_le hq hB) (fun e => ?_)⟩⟩
    have := (row_block h e.symm).1
    omega
/-- a list that a call is making -/
structure Rw (K : Kd α) (W wr : World) (v : Value) (n : Nat) (L : List α) : Prop where
  row : wr.ownsRow W.heap.size K.e K.s v n (K.flat L)
  bel : Below W.heap.size W wr
  len : L.length = n
theorem Rw.drewN {W wr : World} {v : Value} {n : Nat} {L : List α} (h : Rw K W wr v n L) (m : Nat) : Rw K W (wr.drewN m) v n L := ⟨h.row, below_drewN h.bel m, h.len⟩
theorem Rw.nil (W : World) : Rw K W W (.slice none 0 0) 0 [] := ⟨⟨by simp [Kd.flat], .inl ⟨rfl, rfl⟩⟩, Below.refl _ _, rfl⟩
/-- what comes behind and lays new blocks alone -/
theorem Rw.below {W wr w' : World} {v : Value} {n : Nat} {L : List α} (h : Rw K W wr v n L) (hb : Below wr.heap.size wr w') : Rw K W w' v n L :=
  ⟨row_keep h.row (fun g hg => hb.block g (row_block h.row hg).2.1), h.bel.trans (hb.mono h.bel.size), h.len⟩
theorem Rw.lies (hK : KdOK K) {W wr : World} {p : Option Addr} {c n : Nat} {L : List α} (h : Rw K W wr (.slice p n c) n L) : Lies K wr p L := own_lies hK h.len h.row
/-- one element more -/
theorem Rw.put (hK : KdOK K) {W wr : World} {v : Value} {n : Nat} {L : List α} (h : Rw K W wr v n L) (x : α) (vs : Array Value) (hv : vs.toList = K.enc x) (ty : TypeId) (hl : n + 1 ≤ 70000000000000) (hb : (n + 1 + (n + 1) / 4 + 192) * K.by' ≤ 281474976710656) :
    ∃ p' c' w', (Builtin.append_ #[K.t, K.t] ty #[v, .slice (some ⟨wr.heap.size, 0, none⟩) 1 1]).run Tryz.prog (wr.alloc (.cells vs K.e)) = .ok (.slice p' (n + 1) c') w' ∧ Rw K W w' (.slice p' (n + 1) c') (n + 1) (L ++ [x]) := by
  obtain ⟨p8, c8, w8, r8, o8, b8⟩ := run_appW hK ty (W := wr.alloc (.cells vs K.e)) (M := [x]) (B := W.heap.size) (L := L) (n := n) (v := v) (h.row.alloc _) (Nat.le_trans h.bel.size (by simp)) (some ⟨wr.heap.size, 0, none⟩) 1 (fun h => by cases h) (one_lies wr x K.e vs hv) hl hb
  exact ⟨p8, c8, w8, r8, o8, (h.bel.alloc h.bel.size _).trans b8, by rw [List.length_append, h.len]; rfl⟩
theorem nat_bound {n b k c : Nat} (h : n ≤ c) (hc : (c + c / 4 + 192) * b ≤ k) : (n + n / 4 + 192) * b ≤ k := Nat.le_trans (Nat.mul_le_mul_right _ (by omega)) hc
/-- the type at a place -/
def tat (T : List Int) (i : Int) : Int := if i < 0 ∨ (T.length : Int) ≤ i then 0 else T.getD i.toNat 0
theorem typeAt_any {W : World} {p : Option Addr} {n c : Nat} {T : List Int} (hn : T.length = n) (hT : Lies kI W p T) (i : Int) : Calls Tryz.prog 68 #[.slice p n c, .int .i64 i] W fun e w' => e = .returned (.int .i64 (tat T i)) ∧ w' = W := by
  by_cases h1 : i < 0
  · have e : tat T i = 0 := by unfold tat; rw [if_pos (.inl h1)]
    rw [e]
    clear hT
    go_enter Tryz.func68, Tryz.ntmps68
    go_wp2_with fail
    go_ret
    exact ⟨rfl, rfl⟩
  · by_cases h2 : i ≥ (n : Int)
    · have e : tat T i = 0 := by unfold tat; rw [if_pos (.inr (by omega))]
      rw [e]
      clear hT hn e
      go_enter Tryz.func68, Tryz.ntmps68
      go_wp2_with fail
      go_ret
      exact ⟨rfl, rfl⟩
    · obtain ⟨k, rfl⟩ : ∃ k : Nat, i = k := ⟨i.toNat, by omega⟩
      have hk : k < T.length := by omega
      have e : tat T k = T[k] := by
        unfold tat
        rw [if_neg (by omega)]
        simp [List.getD, hk]
      rw [e]
      obtain ⟨b, off, hp, hlt, hr⟩ := hT.2 k hk
      obtain ⟨x, hx⟩ : ∃ x, x = T[k] := ⟨_, rfl⟩
      rw [← hx] at hr ⊢
      have hc := hr 0 (.int .i64 x) rfl
      subst hp
      have hkn : (k : Int) < (n : Int) := by omega
      clear hr hT hn e hx hk
      simp only [kI, Nat.mul_one, Nat.add_zero] at hc
      go_enter Tryz.func68, Tryz.ntmps68
      go_wp2_with fail
      go_ret
      exact ⟨rfl, rfl⟩
/-- can an aggregate be told? -/
def shwS (x : Int × Int) (T : List Int) : Bool := if x.1 = 1 then true else if x.1 = 2 then (tat T x.2 == 1 || tat T x.2 == 5) else if x.1 = 3 ∨ x.1 = 4 then (!(tat T x.2 == 0) && !(tat T x.2 == 4)) else false
set_option maxRecDepth 100000 in
theorem isShown_any {W : World} {p : Option Addr} {n c : Nat} {T : List Int} (hn : T.length = n) (hT : Lies kI W p T) (x : Int × Int) : Calls Tryz.prog 72 #[.agg #[.int .i64 x.1, .int .i64 x.2], .slice p n c] W fun e w' => e = .returned (.bool (shwS x T)) ∧ Below W.heap.size W w' := by
  obtain ⟨k, i⟩ := x
  have d := hide (fun (o : Obj) => typeAt_any (c := c) hn (hT.below ((Below.refl _ W).alloc (Nat.le_refl _) o)) i)
  have d2 := hide isTyped_any
  have HB : Hid (∀ o, Below W.heap.size W (W.alloc o)) := fun o => (Below.refl _ W).alloc (Nat.le_refl _) o
  unfold shwS
  simp only
  obtain ⟨t, ht⟩ : ∃ t, t = tat T i := ⟨_, rfl⟩
  rw [← ht] at d ⊢
  clear ht hT hn
  by_cases h1 : k = 1
  · subst h1
    go_enter Tryz.func72, Tryz.ntmps72
    go_wp2_with fail
    refine (unhide d _).mono ?_
    rintro e w1 ⟨rfl, hw⟩
    rw [hw]; clear hw w1
    go_wp2_with fail
    go_ret
    exact ⟨rfl, unhide HB _⟩
  · have h1' := beqF h1
    rw [if_neg h1]
    by_cases h2 : k = 2
    · subst h2
      rw [if_pos rfl]
      by_cases g1 : t = 1
      · subst g1
        go_enter Tryz.func72, Tryz.ntmps72
        go_wp2_with fail
        refine (unhide d _).mono ?_
        rintro e w1 ⟨rfl, hw⟩
        rw [hw]; clear hw w1
        go_wp2_with fail
        go_ret
        exact ⟨rfl, unhide HB _⟩
      · have g1' := beqF g1
        rw [g1']
        go_enter Tryz.func72, Tryz.ntmps72
        go_wp2_with fail
        refine (unhide d _).mono ?_
        rintro e w1 ⟨rfl, hw⟩
        rw [hw]; clear hw w1
        go_wp2_with fail
        go_ret
        exact ⟨rfl, unhide HB _⟩
    · have h2' := beqF h2
      rw [if_neg h2]
      by_cases h34 : k = 3 ∨ k = 4
      · rw [if_pos h34]
        by_cases g0 : t = 0
        · subst g0
          rcases h34 with rfl | rfl
          · go_enter Tryz.func72, Tryz.ntmps72
            go_wp2_with fail
            refine (unhide d _).mono ?_
            rintro e w1 ⟨rfl, hw⟩
            rw [hw]; clear hw w1
            go_wp2_with fail
            refine (unhide d2 _ _).mono ?_
            rintro e w1 ⟨rfl, hw⟩
            rw [hw]; clear hw w1
            go_wp2_with fail
            go_ret
            exact ⟨rfl, unhide HB _⟩
          · go_enter Tryz.func72, Tryz.ntmps72
            go_wp2_with fail
            refine (unhide d _).mono ?_
            rintro e w1 ⟨rfl, hw⟩
            rw [hw]; clear hw w1
            go_wp2_with fail
            refine (unhide d2 _ _).mono ?_
            rintro e w1 ⟨rfl, hw⟩
            rw [hw]; clear hw w1
            go_wp2_with fail
            go_ret
            exact ⟨rfl, unhide HB _⟩
        · have g0' := beqF g0
          rw [g0']
          have d3 := hide (isTyped_any t)
          rw [g0'] at d3
          clear d2
          rcases h34 with rfl | rfl
          · go_enter Tryz.func72, Tryz.ntmps72
            go_wp2_with fail
            refine (unhide d _).mono ?_
            rintro e w1 ⟨rfl, hw⟩
            rw [hw]; clear hw w1
            go_wp2_with fail
            refine (unhide d3 _).mono ?_
            rintro e w1 ⟨rfl, hw⟩
            rw [hw]; clear hw w1
            go_wp2_with fail
            go_ret
            exact ⟨rfl, unhide HB _⟩
          · go_enter Tryz.func72, Tryz.ntmps72
            go_wp2_with fail
            refine (unhide d _).mono ?_
            rintro e w1 ⟨rfl, hw⟩
            rw [hw]; clear hw w1
            go_wp2_with fail
            refine (unhide d3 _).mono ?_
            rintro e w1 ⟨rfl, hw⟩
            rw [hw]; clear hw w1
            go_wp2_with fail
            go_ret
            exact ⟨rfl, unhide HB _⟩
      · rw [if_neg h34]
        have h3' := beqF (a := k) (b := 3) (by omega)
        have h4' := beqF (a := k) (b := 4) (by omega)
        clear h34
        go_enter Tryz.func72, Tryz.ntmps72
        go_wp2_with fail
        refine (unhide d _).mono ?_
        rintro e w1 ⟨rfl, hw⟩
        rw [hw]; clear hw w1
        go_wp2_with fail
        go_ret
        exact ⟨rfl, unhide HB _⟩
end Go.Proofs.YtbenciieenbmeaaGreatDoor
namespace Go.Proofs.YtbenciieenbmeaaGreatDoor
set_option linter.unusedVariables false
/-- a leap year -/
def leap (y : Nat) : Bool := y % 4 == 0 && (y % 100 != 0 || y % 400 == 0)
theorem leap_iff (y : Nat) : leap y = true ↔ (y % 4 = 0 ∧ (y % 100 ≠ 0 ∨ y % 400 = 0)) := by simp [leap]
/-- the days of a month -/
def dm (y m : Nat) : Nat := if m = 2 then (if leap y then 29 else 28) else if m = 4 ∨ m = 6 ∨ m = 9 ∨ m = 11 then 30 else 31
theorem dm_lo (y m : Nat) : 28 ≤ dm y m := by unfold dm; split <;> (try split) <;> (try split) <;> omega
theorem dm_hi (y m : Nat) : dm y m ≤ 31 := by unfold dm; split <;> (try split) <;> (try split) <;> omega
/-- the days of a year -/
def yl (y : Nat) : Nat := if leap y then 366 else 365
/-- the days ahead of a year -/
def ahead (y : Nat) : Nat := 365 * (y - 1) + (y - 1) / 4 - (y - 1) / 100 + (y - 1) / 400
/-- the days of the months ahead of a month -/
def mb (y : Nat) : Nat → Nat
  | 0 => 0
  | 1 => 0
  | m + 2 => mb y (m + 1) + dm y (m + 1)
theorem mb_one (y : Nat) : mb y 1 = 0 := rfl
theorem mb_succ (y m : Nat) (h : 1 ≤ m) : mb y (m + 1) = mb y m + dm y m := by
  obtain ⟨k, rfl⟩ : ∃ k, m = k + 1 := ⟨m - 1, by omega⟩
  rfl
theorem mb_le (y : Nat) {m k : Nat} (h : 1 ≤ m) (hk : m ≤ k) : mb y m ≤ mb y k := by
  induction k with
  | zero => omega
  | succ k ih =>
    by_cases e : m = k + 1
    · subst e; exact Nat.le_refl _
    · rw [mb_succ y k (by omega)]
      have := ih (by omega)
      omega
theorem mb_end (y : Nat) : mb y 13 = yl y := by
  cases h : leap y <;> simp [mb, dm, yl, h]
theorem ahead_one : ahead 1 = 0 := by decide
theorem div_step (k c : Nat) (hc : 0 < c) : (k + 1) / c = k / c + (if (k + 1) % c = 0 then 1 else 0) := by
  rw [Nat.succ_div]
  simp only [Nat.dvd_iff_mod_eq_zero]
theorem ahead_succ (y : Nat) (h : 1 ≤ y) : ahead (y + 1) = ahead y + yl y := by
  obtain ⟨k, rfl⟩ : ∃ k, y = k + 1 := ⟨y - 1, by omega⟩
  unfold ahead yl
  simp only [Nat.add_sub_cancel]
  have e1 := div_step k 4 (by decide)
  have e2 := div_step k 100 (by decide)
  have e3 := div_step k 400 (by decide)
  have hle : k / 100 ≤ k / 4 := Nat.div_le_div_left (by decide) (by decide)
  have hl := leap_iff (k + 1)
  have i1 : (k + 1) % 100 = 0 → (k + 1) % 4 = 0 := by omega
  have i2 : (k + 1) % 400 = 0 → (k + 1) % 100 = 0 := by omega
  rw [e1, e2, e3]
  clear e1 e2 e3
  generalize k / 4 = p at *
  generalize k / 100 = q at *
  generalize k / 400 = r at *
  generalize (k + 1) % 4 = u at *
  generalize (k + 1) % 100 = v at *
  generalize (k + 1) % 400 = t at *
  cases hh : leap (k + 1)
  · rw [hh] at hl
    by_cases a1 : u = 0 <;> by_cases a2 : v = 0 <;> by_cases a3 : t = 0 <;> simp_all <;> omega
  · rw [hh] at hl
    by_cases a1 : u = 0 <;> by_cases a2 : v = 0 <;> by_cases a3 : t = 0 <;> simp_all <;> omega
theorem ahead_le {y z : Nat} (h : 1 ≤ y) (hz : y ≤ z) : ahead y ≤ ahead z := by
  induction z with
  | zero => omega
  | succ k ih =>
    by_cases e : y = k + 1
    · subst e; exact Nat.le_refl _
    · rw [ahead_succ k (by omega)]
      have := ih (by omega)
      omega
/-- y, m, d is the date of the day n -/
structure Dat (y m d n : Nat) : Prop where
  y1 : 1 ≤ y
  y2 : y ≤ 9999
  m1 : 1 ≤ m
  m2 : m ≤ 12
  d1 : 1 ≤ d
  d2 : d ≤ dm y m
  num : n = ahead y + mb y m + d
theorem Dat.inYear {y m d n : Nat} (h : Dat y m d n) : mb y m + d ≤ yl y := by
  have h1 := mb_succ y m h.m1
  have h2 := mb_le y (m := m + 1) (k := 13) (by omega) (by have := h.m2; omega)
  rw [mb_end] at h2
  have := h.d2
  omega
theorem Dat.lo {y m d n : Nat} (h : Dat y m d n) : 1 ≤ n := by have := h.num; have := h.d1; omega
theorem ahead_end : ahead 10000 = 3652059 := by decide
theorem Dat.hi {y m d n : Nat} (h : Dat y m d n) : n ≤ 3652059 := by
  have h1 := h.inYear
  have h2 := ahead_succ y h.y1
  have h3 := ahead_le (y := y + 1) (z := 10000) (by omega) (by have := h.y2; omega)
  rw [ahead_end] at h3
  have := h.num
  omega
theorem Dat.less {y m d n y' m' d' n' : Nat} (h : Dat y m d n) (k : Dat y' m' d' n') (hl : y < y' ∨ y = y' ∧ (m < m' ∨ m = m' ∧ d < d')) : n < n' := by
  rw [h.num, k.num]
  rcases hl with hl | ⟨rfl, hl | ⟨rfl, hl⟩⟩
  · have h1 := h.inYear
    have h2 := ahead_succ y h.y1
    have h3 := ahead_le (y := y + 1) (z := y') (by omega) (by omega)
    have := k.d1
    omega
  · have h1 := mb_succ y m h.m1
    have h2 := mb_le y (m := m + 1) (k := m') (by omega) (by omega)
    have := h.d2
    have := k.d1
    omega
  · omega
theorem Dat.same {y m d n y' m' d' : Nat} (h : Dat y m d n) (k : Dat y' m' d' n) : y = y' ∧ m = m' ∧ d = d' := by
  have h1 := fun hl => Dat.less h k hl
  have h2 := fun hl => Dat.less k h hl
  omega
theorem Dat.back {y m d n y' m' d' n' : Nat} (h : Dat y m d n) (k : Dat y' m' d' n') (hl : n < n') : y < y' ∨ y = y' ∧ (m < m' ∨ m = m' ∧ d < d') := by
  have h2 := fun hl => Dat.less k h hl
  have : ¬ (y = y' ∧ m = m' ∧ d = d') := by
    rintro ⟨rfl, rfl, rfl⟩
    have := h.num
    have := k.num
    omega
  omega
/-- the next date -/
theorem Dat.next {y m d n : Nat} (h : Dat y m d n) (hn : n < 3652059) :
    Dat y m (d + 1) (n + 1) ∧ d < dm y m ∨ Dat y (m + 1) 1 (n + 1) ∧ d = dm y m ∧ m < 12 ∨ Dat (y + 1) 1 1 (n + 1) ∧ d = dm y m ∧ m = 12 := by
  by_cases hd : d < dm y m
  · exact Or.inl ⟨⟨h.y1, h.y2, h.m1, h.m2, by omega, by omega, by rw [h.num]; omega⟩, hd⟩
  · have hd' : d = dm y m := by have := h.d2; omega
    by_cases hm : m < 12
    · exact Or.inr (Or.inl ⟨⟨h.y1, h.y2, by omega, by omega, by omega, by have := dm_lo y (m + 1); omega, by rw [h.num, mb_succ y m h.m1]; omega⟩, hd', hm⟩)
    · have hm' : m = 12 := by have := h.m2; omega
      subst hm'
      have h1 : mb y 13 = mb y 12 + dm y 12 := mb_succ y 12 (by omega)
      rw [mb_end] at h1
      have h2 := ahead_succ y h.y1
      have hy : y < 9999 := by
        have := h.y2
        by_cases hy : y = 9999
        · subst hy
          have := h.num
          have e := ahead_end
          have h2' : ahead 10000 = ahead 9999 + yl 9999 := h2
          omega
        · omega
      exact Or.inr (Or.inr ⟨⟨by omega, by omega, by omega, by omega, by omega, by have := dm_lo (y + 1) 1; omega, by rw [h.num, mb_one]; omega⟩, hd', rfl⟩)
theorem dat_first : Dat 1 1 1 1 := ⟨by decide, by decide, by decide, by decide, by decide, by decide, by decide⟩
theorem dat_ex (n : Nat) (h : 1 ≤ n) (h' : n ≤ 3652059) : ∃ y m d, Dat y m d n := by
  induction n with
  | zero => omega
  | succ n ih =>
    by_cases e : n = 0
    · subst e; exact ⟨1, 1, 1, dat_first⟩
    · obtain ⟨y, m, d, k⟩ := ih (by omega) (by omega)
      rcases k.next (by omega) with ⟨k, _⟩ | ⟨k, _⟩ | ⟨k, _⟩ <;> exact ⟨_, _, _, k⟩
/-- a year's place in its cycle -/
structure Cyc (y a b c e : Nat) : Prop where
  eq : y = 400 * a + 100 * b + 4 * c + e + 1
  b3 : b ≤ 3
  c24 : c ≤ 24
  e3 : e ≤ 3
theorem cyc_ex (y : Nat) (h : 1 ≤ y) : ∃ a b c e, Cyc y a b c e := by
  refine ⟨(y - 1) / 400, (y - 1) % 400 / 100, (y - 1) % 100 / 4, (y - 1) % 4, ?_, ?_, ?_, ?_⟩ <;> omega
theorem Cyc.ah {y a b c e : Nat} (h : Cyc y a b c e) : ahead y = 146097 * a + 36524 * b + 1461 * c + 365 * e := by
  have := h.eq
  have := h.b3
  have := h.c24
  have := h.e3
  unfold ahead
  have h1 : (y - 1) / 4 = 100 * a + 25 * b + c := by omega
  have h2 : (y - 1) / 100 = 4 * a + b := by omega
  have h3 : (y - 1) / 400 = a := by omega
  rw [h1, h2, h3]
  omega
theorem Cyc.leap {y a b c e : Nat} (h : Cyc y a b c e) (hl : leap y = true) : e = 3 ∧ (c < 24 ∨ b = 3) := by
  have := h.eq
  have := h.b3
  have := h.c24
  have := h.e3
  rw [leap_iff] at hl
  omega
theorem yl_cases (y : Nat) : leap y = true ∧ yl y = 366 ∨ leap y = false ∧ yl y = 365 := by
  unfold yl
  cases h : leap y <;> simp
/-- what the code's divisions come to: the day of the year r from 0 on -/
theorem Cyc.parts {y a b c e r : Nat} (h : Cyc y a b c e) (hr : r < yl y) :
    (ahead y + r) / 146097 = a ∧ (ahead y + r) % 146097 = 36524 * b + 1461 * c + 365 * e + r ∧ min ((36524 * b + 1461 * c + 365 * e + r) / 36524) 3 = b ∧
    (1461 * c + 365 * e + r) / 1461 = c ∧ (1461 * c + 365 * e + r) % 1461 = 365 * e + r ∧ min ((365 * e + r) / 365) 3 = e := by
  have h1 := h.ah
  have h2 := h.b3
  have h3 := h.c24
  have h4 := h.e3
  have h5 := h.leap
  rw [h1]
  rcases yl_cases y with ⟨hl, hy⟩ | ⟨hl, hy⟩
  · have h6 := h5 hl
    rw [hy] at hr
    omega
  · rw [hy] at hr
    omega
/-- months on: the day so many months later -/
theorem Dat.mon {y m d n : Nat} (h : Dat y m d n) (t : Nat) (h1 : 12 ≤ t) (h2 : t < 120000) : Dat (t / 12) (t % 12 + 1) (min d (dm (t / 12) (t % 12 + 1))) (ahead (t / 12) + mb (t / 12) (t % 12 + 1) + min d (dm (t / 12) (t % 12 + 1))) := by
  have := h.d1
  have := dm_lo (t / 12) (t % 12 + 1)
  exact ⟨by omega, by omega, by omega, by omega, by omega, by omega, rfl⟩
theorem Dat.inMonth {y m d n : Nat} (h : Dat y m d n) (e : Nat) (h1 : 1 ≤ e) (h2 : e ≤ dm y m) : Dat y m e (n - d + e) := ⟨h.y1, h.y2, h.m1, h.m2, h1, h2, by have := h.num; have := h.d1; omega⟩
theorem Dat.dn {y m d n : Nat} (h : Dat y m d n) : d ≤ n := by have := h.num; omega
/-- a cycle further on -/
theorem ahead_cyc (y : Nat) (h : 1 ≤ y) : ahead (y + 400) = ahead y + 146097 := by
  obtain ⟨a, b, c, e, k⟩ := cyc_ex y h
  have k2 : Cyc (y + 400) (a + 1) b c e := ⟨by have := k.eq; omega, k.b3, k.c24, k.e3⟩
  rw [k.ah, k2.ah]
  omega
theorem leap_cyc (y : Nat) : leap (y + 400) = leap y := by
  unfold leap
  rw [show (y + 400) % 4 = y % 4 by omega, show (y + 400) % 100 = y % 100 by omega, show (y + 400) % 400 = y % 400 by omega]
theorem dm_cyc (y m : Nat) : dm (y + 400) m = dm y m := by unfold dm; rw [leap_cyc]
theorem mb_cyc (y : Nat) : ∀ m, mb (y + 400) m = mb y m
  | 0 => rfl
  | 1 => rfl
  | m + 2 => by
    show mb (y + 400) (m + 1) + dm (y + 400) (m + 1) = mb y (m + 1) + dm y (m + 1)
    rw [mb_cyc y (m + 1), dm_cyc]
theorem Dat.cyc {y m d n : Nat} (h : Dat y m d n) (hn : n + 146097 ≤ 3652059) : Dat (y + 400) m d (n + 146097) := by
  have hy : y + 400 ≤ 9999 := by
    have h1 := h.y1
    by_cases hy : y + 400 ≤ 9999
    · exact hy
    · have h3 := ahead_le (y := 10000) (z := y + 400) (by omega) (by omega)
      rw [ahead_end, ahead_cyc y h.y1] at h3
      have := h.num
      have := h.d1
      omega
  exact ⟨by omega, hy, h.m1, h.m2, h.d1, by rw [dm_cyc]; exact h.d2, by rw [ahead_cyc y h.y1, mb_cyc, h.num]; omega⟩
end Go.Proofs.YtbenciieenbmeaaGreatDoor
namespace Go.Proofs.YtbenciieenbmeaaGreatDoor
open Go.ChangeShapes Go.WideShapes Go.ChangeAt Go.RowKit
set_option linter.unusedVariables false
theorem retB {p q : Bool} (h : p = q) : Ending.returned (.bool p) = .returned (.bool q) := by rw [h]
theorem retI {a b : Int} (h : a = b) : Ending.returned (.int .i64 a) = .returned (.int .i64 b) := by rw [h]
theorem retII {a b c d : Int} (h : a = b) (k : c = d) : Ending.returned (.tuple #[.int .i64 a, .int .i64 c]) = .returned (.tuple #[.int .i64 b, .int .i64 d]) := by rw [h, k]
/-- a leap year, of any whole number -/
def lp (y : Int) : Bool := y.tmod 4 == 0 && (y.tmod 100 != 0 || y.tmod 400 == 0)
theorem tmod_nat (y k : Nat) : ((y : Int).tmod (k : Int)) = ((y % k : Nat) : Int) := by
  rw [Int.tmod_eq_emod_of_nonneg (by omega)]
  omega
theorem lp_nat (y : Nat) : lp (y : Int) = leap y := by
  have h1 := tmod_nat y 4
  have h2 := tmod_nat y 100
  have h3 := tmod_nat y 400
  unfold lp leap
  rw [show ((4 : Nat) : Int) = 4 from rfl] at h1
  rw [show ((100 : Nat) : Int) = 100 from rfl] at h2
  rw [show ((400 : Nat) : Int) = 400 from rfl] at h3
  rw [h1, h2, h3]
  generalize y % 4 = a
  generalize y % 100 = b
  generalize y % 400 = c
  rw [Bool.eq_iff_iff]
  simp
set_option maxHeartbeats 1000000 in
theorem dleap (y : Int) (w : World) : Calls Tryz.prog 148 #[.int .i64 y] w fun e w' => e = .returned (.bool (lp y)) ∧ w' = w := by
  go_enter Tryz.func148, Tryz.ntmps148
  go_wp2
  all_goals
    go_ret
    exact ⟨retB (by simp [lp, *]), rfl⟩
theorem Mon.cell {w : World} (h : Mon w) (i : Nat) (hi : i < 12) : w.cell? ⟨2, i, none⟩ = some (.int .i64 (monL.getD i 0)) := Lib.TabIs.cell h mon_no i hi
set_option maxHeartbeats 2000000 in
theorem dof (y m : Nat) (w : World) (hM : Mon w) (h1 : 1 ≤ m) (h2 : m ≤ 12) : Calls Tryz.prog 140 #[.int .i64 y, .int .i64 m] w fun e w' => e = .returned (.int .i64 (dm y m)) ∧ w' = w := by
  have hm : m = 2 ∨ m = 1 ∨ m = 3 ∨ m = 4 ∨ m = 5 ∨ m = 6 ∨ m = 7 ∨ m = 8 ∨ m = 9 ∨ m = 10 ∨ m = 11 ∨ m = 12 := by omega
  clear h1 h2
  rcases hm with rfl | hm
  · have hc : w.cell? ⟨2, 1, none⟩ = some (.int .i64 28) := hM.cell 1 (by omega)
    have hl := dleap y w
    rw [lp_nat] at hl
    cases he : leap y
    · rw [he] at hl
      have hd : dm y 2 = 28 := by simp [dm, he]
      rw [hd]
      clear hd he hM
      go_enter Tryz.func140, Tryz.ntmps140
      go_wp2_with (go_at_call 148; refine hl.mono ?_; rintro e w' ⟨rfl, hw⟩; subst hw)
      go_ret
      exact ⟨rfl, rfl⟩
    · rw [he] at hl
      have hd : dm y 2 = 29 := by simp [dm, he]
      rw [hd]
      clear hd he hM
      go_enter Tryz.func140, Tryz.ntmps140
      go_wp2_with (go_at_call 148; refine hl.mono ?_; rintro e w' ⟨rfl, hw⟩; subst hw)
      go_ret
      exact ⟨rfl, rfl⟩
  · have hc1 : ∀ i : Nat, i < 12 → w.cell? ⟨2, i, none⟩ = some (.int .i64 (monL.getD i 0)) := fun i hi => hM.cell i hi
    clear hM
    have HC := hide hc1
    clear hc1
    rcases hm with rfl | rfl | rfl | rfl | rfl | rfl | rfl | rfl | rfl | rfl | rfl
    · have hc : w.cell? ⟨2, 0, none⟩ = some (.int .i64 31) := unhide HC 0 (by omega)
      go_enter Tryz.func140, Tryz.ntmps140
      go_wp2
      go_ret
      exact ⟨rfl, rfl⟩
    · have hc : w.cell? ⟨2, 2, none⟩ = some (.int .i64 31) := unhide HC 2 (by omega)
      go_enter Tryz.func140, Tryz.ntmps140
      go_wp2
      go_ret
      exact ⟨rfl, rfl⟩
    · have hc : w.cell? ⟨2, 3, none⟩ = some (.int .i64 30) := unhide HC 3 (by omega)
      go_enter Tryz.func140, Tryz.ntmps140
      go_wp2
      go_ret
      exact ⟨rfl, rfl⟩
    · have hc : w.cell? ⟨2, 4, none⟩ = some (.int .i64 31) := unhide HC 4 (by omega)
      go_enter Tryz.func140, Tryz.ntmps140
      go_wp2
      go_ret
      exact ⟨rfl, rfl⟩
    · have hc : w.cell? ⟨2, 5, none⟩ = some (.int .i64 30) := unhide HC 5 (by omega)
      go_enter Tryz.func140, Tryz.ntmps140
      go_wp2
      go_ret
      exact ⟨rfl, rfl⟩
    · have hc : w.cell? ⟨2, 6, none⟩ = some (.int .i64 31) := unhide HC 6 (by omega)
      go_enter Tryz.func140, Tryz.ntmps140
      go_wp2
      go_ret
      exact ⟨rfl, rfl⟩
    · have hc : w.cell? ⟨2, 7, none⟩ = some (.int .i64 31) := unhide HC 7 (by omega)
      go_enter Tryz.func140, Tryz.ntmps140
      go_wp2
      go_ret
      exact ⟨rfl, rfl⟩
    · have hc : w.cell? ⟨2, 8, none⟩ = some (.int .i64 30) := unhide HC 8 (by omega)
      go_enter Tryz.func140, Tryz.ntmps140
      go_wp2
      go_ret
      exact ⟨rfl, rfl⟩
    · have hc : w.cell? ⟨2, 9, none⟩ = some (.int .i64 31) := unhide HC 9 (by omega)
      go_enter Tryz.func140, Tryz.ntmps140
      go_wp2
      go_ret
      exact ⟨rfl, rfl⟩
    · have hc : w.cell? ⟨2, 10, none⟩ = some (.int .i64 30) := unhide HC 10 (by omega)
      go_enter Tryz.func140, Tryz.ntmps140
      go_wp2
      go_ret
      exact ⟨rfl, rfl⟩
    · have hc : w.cell? ⟨2, 11, none⟩ = some (.int .i64 31) := unhide HC 11 (by omega)
      go_enter Tryz.func140, Tryz.ntmps140
      go_wp2
      go_ret
      exact ⟨rfl, rfl⟩
set_option maxHeartbeats 1000000 in
theorem isday_yes (n : Int) (w : World) (h1 : 1 ≤ n) (h2 : n ≤ 3652059) : Calls Tryz.prog 132 #[.int .i64 n] w fun e w' => e = .returned (.bool true) ∧ w' = w := by
  go_enter Tryz.func132, Tryz.ntmps132
  go_wp2
  go_ret
  exact ⟨by simp, rfl⟩
set_option maxHeartbeats 1000000 in
theorem isday_no (n : Int) (w : World) (h : n < 1 ∨ 3652059 < n) : Calls Tryz.prog 132 #[.int .i64 n] w fun e w' => e = .returned (.bool false) ∧ w' = w := by
  rcases h with h | h
  all_goals
    go_enter Tryz.func132, Tryz.ntmps132
    go_wp2
    go_ret
    exact ⟨by simp; try omega, rfl⟩
end Go.Proofs.YtbenciieenbmeaaGreatDoor
namespace Go.Proofs.YtbenciieenbmeaaGreatDoor
open Go.ChangeShapes Go.WideShapes Go.ChangeAt Go.RowKit
set_option linter.unusedVariables false
theorem mon1 {w : World} (h : Mon w) (o1 : Obj) : Mon (w.alloc o1) := h.below ((Below.refl _ _).alloc (Nat.le_refl _) o1)
theorem mon2 {w : World} (h : Mon w) (o1 o2 : Obj) : Mon ((w.alloc o1).alloc o2) := mon1 (mon1 h o1) o2
theorem ahead_int (y : Nat) (h : 1 ≤ y) : ((y : Int) - 1) * 365 + ((y : Int) - 1) / 4 - ((y : Int) - 1) / 100 + ((y : Int) - 1) / 400 = (ahead y : Int) := by
  obtain ⟨k, rfl⟩ : ∃ k, y = k + 1 := ⟨y - 1, by omega⟩
  unfold ahead
  have : k / 100 ≤ k / 4 := Nat.div_le_div_left (by decide) (by decide)
  have e : ((k + 1 : Nat) : Int) - 1 = (k : Int) := by omega
  rw [e, Nat.add_sub_cancel]
  omega
theorem ahead_hi (y : Nat) (h1 : 1 ≤ y) (h : y ≤ 9999) : ahead y ≤ 3652059 := by
  have h3 := ahead_le (y := y) (z := 10000) h1 (by omega)
  rw [ahead_end] at h3
  exact h3
theorem mb_hi (y m : Nat) (h1 : 1 ≤ m) (h : m ≤ 12) : mb y m ≤ 366 := by
  have h3 := mb_le y (m := m) (k := 13) h1 (by omega)
  rw [mb_end] at h3
  have := yl_cases y
  omega
/-- what the divisions of a day's number come to -/
theorem parts_int (y m d n : Nat) (h : Dat y m d n) : ∃ a b c e r : Nat, Cyc y a b c e ∧ r + 1 = mb y m + d ∧ r < yl y ∧
    ((n : Int) - 1) / 146097 = a ∧ ((n : Int) - 1) % 146097 = ((36524 * b + 1461 * c + 365 * e + r : Nat) : Int) ∧ b ≤ 3 ∧ c ≤ 24 ∧ e ≤ 3 ∧ a ≤ 24 := by
  obtain ⟨a, b, c, e, k⟩ := cyc_ex y h.y1
  have h1 := h.inYear
  have h2 := h.d1
  have hr : mb y m + d - 1 < yl y := by omega
  have h3 := k.parts hr
  have h4 := h.num
  have h5 := k.eq
  have h6 := h.y2
  refine ⟨a, b, c, e, mb y m + d - 1, k, by omega, hr, ?_, ?_, k.b3, k.c24, k.e3, by omega⟩
  · have := h3.1
    omega
  · have := h3.2.1
    omega
set_option maxHeartbeats 2000000 in
theorem date_le_le (n A R1 Q1 R2 F R3 Q2 r y m d : Nat) (w : World) (HM : Hid (Mon w)) (hn1 : 1 ≤ n) (hn2 : n ≤ 3652059) (hA : ((n : Int) - 1) / 146097 = (A : Int)) (hA24 : A ≤ 24) (hR1 : ((n : Int) - 1) % 146097 = (R1 : Int)) (hR1b : R1 ≤ 146096)
    (hq1 : (R1 : Int) / 36524 = (Q1 : Int)) (hQ1 : Q1 ≤ 3) (hR2 : (R1 : Int) - (Q1 : Int) * 36524 = (R2 : Int)) (hR2b : R2 ≤ 146096) (hF : (R2 : Int) / 1461 = (F : Int)) (hFb : F ≤ 24) (hR3 : (R2 : Int) % 1461 = (R3 : Int)) (hR3b : R3 ≤ 1460) (hq2 : (R3 : Int) / 365 = (Q2 : Int)) (hQ2 : Q2 ≤ 3) (hR4 : (R3 : Int) - (Q2 : Int) * 365 = (r : Int))
    (hY : (A : Int) * 400 + (Q1 : Int) * 100 + (F : Int) * 4 + (Q2 : Int) + 1 = (y : Int)) (hy2 : y ≤ 9999) (hm1 : 1 ≤ m) (hm2 : m ≤ 12) (hd1 : 1 ≤ d) (hd2 : Hid (d ≤ dm y m)) (hr : r + 1 = mb y m + d) :
    Calls Tryz.prog 133 #[.int .i64 n] w fun e w' => e = .returned (.agg #[.int .i64 y, .int .i64 m, .int .i64 d]) ∧ w' = (w.alloc (.cells #[.int .i64 y, .int .i64 m, .int .i64 d] 223)).alloc (.cells #[.int .i64 y, .int .i64 m, .int .i64 d] 223) := by
  have HR := hide hr
  have hr2 : r ≤ 1460 := by omega
  clear hr
  go_enter Tryz.func133, Tryz.ntmps133
  go_wp2
  clear hA hA24 hR1 hR1b hq1 hQ1 hR2 hR2b hF hFb hR3 hR3b hq2 hQ2 hR4 hY
  go_loopw [3] (fun v wr => ∃ (k z : Nat), 1 ≤ k ∧ k ≤ m ∧ v = .int .i64 z ∧ z + mb y k = r ∧ wr = (w.alloc (.cells #[.int .i64 0, .int .i64 0, .int .i64 0] 223)).alloc (.cells #[.int .i64 y, .int .i64 k, .int .i64 0] 223)) (fun v _ => (RowKit.intOf v).toNat)
  case atStart => exact ⟨1, r, by omega, by omega, rfl, by rw [mb_one]; omega, rfl⟩
  case round =>
    obtain ⟨k, z, hk1, hk2, rfl, hz, rfl⟩ := hrel
    have DC := hide (dof y k _ (mon2 (unhide HM) (.cells #[.int .i64 0, .int .i64 0, .int .i64 0] 223) (.cells #[.int .i64 y, .int .i64 k, .int .i64 0] 223)) hk1 (by omega))
    have hx1 := dm_lo y k
    have hx2 := dm_hi y k
    have hs := mb_succ y k hk1
    have hl := fun (h : k + 1 ≤ m) => mb_le y (m := k + 1) (k := m) (by omega) h
    obtain ⟨X, hX⟩ : ∃ X, dm y k = X := ⟨_, rfl⟩
    rw [hX] at DC hx1 hx2 hs
    have hz3 : z ≤ 1460 := by omega
    by_cases hlt : k < m
    · have hge : X ≤ z := by
        have := hl (by omega)
        have := unhide HR
        omega
      have hz' : z - X + mb y (k + 1) = r := by omega
      have HZ := hide hz'
      clear hz hs hl hX hz'
      go_wp2_with (go_at_call 140; refine (unhide DC).mono ?_; rintro e w' ⟨rfl, hw⟩; subst hw)
      refine ⟨⟨k + 1, z - X, by omega, by omega, by go_num, unhide HZ, by go_num⟩, ?_⟩
      simp [RowKit.intOf]
      omega
    · have : k = m := by omega
      subst this
      have hzd : z + 1 = d := by have := unhide HR; omega
      have hlt2 : z < X := by have := unhide hd2; omega
      clear hz hs hl hX
      have hzd2 : (z : Int) + 1 = (d : Int) := by omega
      have ZD := hide hzd
      clear hzd
      go_wp2_with (go_at_call 140; refine (unhide DC).mono ?_; rintro e w' ⟨rfl, hw⟩; subst hw)
      refine bodyPost_ret (v := .agg #[.int .i64 y, .int .i64 k, .int .i64 d]) (by simp [results, Tryz.results133, go_sem]) rfl ⟨rfl, rfl⟩
set_option maxHeartbeats 2000000 in
theorem date_le_gt (n A R1 Q1 R2 F R3 Q2 r y m d : Nat) (w : World) (HM : Hid (Mon w)) (hn1 : 1 ≤ n) (hn2 : n ≤ 3652059) (hA : ((n : Int) - 1) / 146097 = (A : Int)) (hA24 : A ≤ 24) (hR1 : ((n : Int) - 1) % 146097 = (R1 : Int)) (hR1b : R1 ≤ 146096)
    (hq1 : (R1 : Int) / 36524 = (Q1 : Int)) (hQ1 : Q1 ≤ 3) (hR2 : (R1 : Int) - (Q1 : Int) * 36524 = (R2 : Int)) (hR2b : R2 ≤ 146096) (hF : (R2 : Int) / 1461 = (F : Int)) (hFb : F ≤ 24) (hR3 : (R2 : Int) % 1461 = (R3 : Int)) (hR3b : R3 ≤ 1460) (hq2 : (R3 : Int) / 365 = (Q2 : Int)) (hQ2 : 3 < Q2) (hR4 : (R3 : Int) - 1095 = (r : Int))
    (hY : (A : Int) * 400 + (Q1 : Int) * 100 + (F : Int) * 4 + 3 + 1 = (y : Int)) (hy2 : y ≤ 9999) (hm1 : 1 ≤ m) (hm2 : m ≤ 12) (hd1 : 1 ≤ d) (hd2 : Hid (d ≤ dm y m)) (hr : r + 1 = mb y m + d) :
    Calls Tryz.prog 133 #[.int .i64 n] w fun e w' => e = .returned (.agg #[.int .i64 y, .int .i64 m, .int .i64 d]) ∧ w' = (w.alloc (.cells #[.int .i64 y, .int .i64 m, .int .i64 d] 223)).alloc (.cells #[.int .i64 y, .int .i64 m, .int .i64 d] 223) := by
  have HR := hide hr
  have hr2 : r ≤ 1460 := by omega
  clear hr
  go_enter Tryz.func133, Tryz.ntmps133
  go_wp2
  clear hA hA24 hR1 hR1b hq1 hQ1 hR2 hR2b hF hFb hR3 hR3b hq2 hQ2 hR4 hY
  go_loopw [3] (fun v wr => ∃ (k z : Nat), 1 ≤ k ∧ k ≤ m ∧ v = .int .i64 z ∧ z + mb y k = r ∧ wr = (w.alloc (.cells #[.int .i64 0, .int .i64 0, .int .i64 0] 223)).alloc (.cells #[.int .i64 y, .int .i64 k, .int .i64 0] 223)) (fun v _ => (RowKit.intOf v).toNat)
  case atStart => exact ⟨1, r, by omega, by omega, rfl, by rw [mb_one]; omega, rfl⟩
  case round =>
    obtain ⟨k, z, hk1, hk2, rfl, hz, rfl⟩ := hrel
    have DC := hide (dof y k _ (mon2 (unhide HM) (.cells #[.int .i64 0, .int .i64 0, .int .i64 0] 223) (.cells #[.int .i64 y, .int .i64 k, .int .i64 0] 223)) hk1 (by omega))
    have hx1 := dm_lo y k
    have hx2 := dm_hi y k
    have hs := mb_succ y k hk1
    have hl := fun (h : k + 1 ≤ m) => mb_le y (m := k + 1) (k := m) (by omega) h
    obtain ⟨X, hX⟩ : ∃ X, dm y k = X := ⟨_, rfl⟩
    rw [hX] at DC hx1 hx2 hs
    have hz3 : z ≤ 1460 := by omega
    by_cases hlt : k < m
    · have hge : X ≤ z := by
        have := hl (by omega)
        have := unhide HR
        omega
      have hz' : z - X + mb y (k + 1) = r := by omega
      have HZ := hide hz'
      clear hz hs hl hX hz'
      go_wp2_with (go_at_call 140; refine (unhide DC).mono ?_; rintro e w' ⟨rfl, hw⟩; subst hw)
      refine ⟨⟨k + 1, z - X, by omega, by omega, by go_num, unhide HZ, by go_num⟩, ?_⟩
      simp [RowKit.intOf]
      omega
    · have : k = m := by omega
      subst this
      have hzd : z + 1 = d := by have := unhide HR; omega
      have hlt2 : z < X := by have := unhide hd2; omega
      clear hz hs hl hX
      have hzd2 : (z : Int) + 1 = (d : Int) := by omega
      have ZD := hide hzd
      clear hzd
      go_wp2_with (go_at_call 140; refine (unhide DC).mono ?_; rintro e w' ⟨rfl, hw⟩; subst hw)
      refine bodyPost_ret (v := .agg #[.int .i64 y, .int .i64 k, .int .i64 d]) (by simp [results, Tryz.results133, go_sem]) rfl ⟨rfl, rfl⟩
set_option maxHeartbeats 2000000 in
theorem date_gt_gt (n A R1 Q1 R2 F R3 Q2 r y m d : Nat) (w : World) (HM : Hid (Mon w)) (hn1 : 1 ≤ n) (hn2 : n ≤ 3652059) (hA : ((n : Int) - 1) / 146097 = (A : Int)) (hA24 : A ≤ 24) (hR1 : ((n : Int) - 1) % 146097 = (R1 : Int)) (hR1b : R1 ≤ 146096)
    (hq1 : (R1 : Int) / 36524 = (Q1 : Int)) (hQ1 : 3 < Q1) (hR2 : (R1 : Int) - 109572 = (R2 : Int)) (hR2b : R2 ≤ 146096) (hF : (R2 : Int) / 1461 = (F : Int)) (hFb : F ≤ 24) (hR3 : (R2 : Int) % 1461 = (R3 : Int)) (hR3b : R3 ≤ 1460) (hq2 : (R3 : Int) / 365 = (Q2 : Int)) (hQ2 : 3 < Q2) (hR4 : (R3 : Int) - 1095 = (r : Int))
    (hY : (A : Int) * 400 + 300 + (F : Int) * 4 + 3 + 1 = (y : Int)) (hy2 : y ≤ 9999) (hm1 : 1 ≤ m) (hm2 : m ≤ 12) (hd1 : 1 ≤ d) (hd2 : Hid (d ≤ dm y m)) (hr : r + 1 = mb y m + d) :
    Calls Tryz.prog 133 #[.int .i64 n] w fun e w' => e = .returned (.agg #[.int .i64 y, .int .i64 m, .int .i64 d]) ∧ w' = (w.alloc (.cells #[.int .i64 y, .int .i64 m, .int .i64 d] 223)).alloc (.cells #[.int .i64 y, .int .i64 m, .int .i64 d] 223) := by
  have HR := hide hr
  have hr2 : r ≤ 1460 := by omega
  clear hr
  go_enter Tryz.func133, Tryz.ntmps133
  go_wp2
  clear hA hA24 hR1 hR1b hq1 hQ1 hR2 hR2b hF hFb hR3 hR3b hq2 hQ2 hR4 hY
  go_loopw [3] (fun v wr => ∃ (k z : Nat), 1 ≤ k ∧ k ≤ m ∧ v = .int .i64 z ∧ z + mb y k = r ∧ wr = (w.alloc (.cells #[.int .i64 0, .int .i64 0, .int .i64 0] 223)).alloc (.cells #[.int .i64 y, .int .i64 k, .int .i64 0] 223)) (fun v _ => (RowKit.intOf v).toNat)
  case atStart => exact ⟨1, r, by omega, by omega, rfl, by rw [mb_one]; omega, rfl⟩
  case round =>
    obtain ⟨k, z, hk1, hk2, rfl, hz, rfl⟩ := hrel
    have DC := hide (dof y k _ (mon2 (unhide HM) (.cells #[.int .i64 0, .int .i64 0, .int .i64 0] 223) (.cells #[.int .i64 y, .int .i64 k, .int .i64 0] 223)) hk1 (by omega))
    have hx1 := dm_lo y k
    have hx2 := dm_hi y k
    have hs := mb_succ y k hk1
    have hl := fun (h : k + 1 ≤ m) => mb_le y (m := k + 1) (k := m) (by omega) h
    obtain ⟨X, hX⟩ : ∃ X, dm y k = X := ⟨_, rfl⟩
    rw [hX] at DC hx1 hx2 hs
    have hz3 : z ≤ 1460 := by omega
    by_cases hlt : k < m
    · have hge : X ≤ z := by
        have := hl (by omega)
        have := unhide HR
        omega
      have hz' : z - X + mb y (k + 1) = r := by omega
      have HZ := hide hz'
      clear hz hs hl hX hz'
      go_wp2_with (go_at_call 140; refine (unhide DC).mono ?_; rintro e w' ⟨rfl, hw⟩; subst hw)
      refine ⟨⟨k + 1, z - X, by omega, by omega, by go_num, unhide HZ, by go_num⟩, ?_⟩
      simp [RowKit.intOf]
      omega
    · have : k = m := by omega
      subst this
      have hzd : z + 1 = d := by have := unhide HR; omega
      have hlt2 : z < X := by have := unhide hd2; omega
      clear hz hs hl hX
      have hzd2 : (z : Int) + 1 = (d : Int) := by omega
      have ZD := hide hzd
      clear hzd
      go_wp2_with (go_at_call 140; refine (unhide DC).mono ?_; rintro e w' ⟨rfl, hw⟩; subst hw)
      refine bodyPost_ret (v := .agg #[.int .i64 y, .int .i64 k, .int .i64 d]) (by simp [results, Tryz.results133, go_sem]) rfl ⟨rfl, rfl⟩
theorem date_any (y m d n : Nat) (w : World) (hM : Mon w) (h : Dat y m d n) :
    Calls Tryz.prog 133 #[.int .i64 n] w fun e w' => e = .returned (.agg #[.int .i64 y, .int .i64 m, .int .i64 d]) ∧ w' = (w.alloc (.cells #[.int .i64 y, .int .i64 m, .int .i64 d] 223)).alloc (.cells #[.int .i64 y, .int .i64 m, .int .i64 d] 223) := by
  obtain ⟨a, b, c, e, r, hc, hr, hry, hA, hR, hb, hcc, he, ha⟩ := parts_int y m d n h
  have hy := hc.eq
  have h2 := h.y2
  have hl := yl_cases y
  have hlp := hc.leap
  have h0 := h.lo
  have h9 := h.hi
  have hr366 : r ≤ 365 := by omega
  by_cases h4 : r = 365 ∧ e = 3
  · obtain ⟨hr5, he3⟩ := h4
    have hlb : leap y = true := by
      rcases hl with ⟨h, _⟩ | ⟨_, h⟩
      · exact h
      · omega
    have hcb := (hlp hlb).2
    by_cases h5 : c = 24
    · exact date_gt_gt n a (36524 * b + 1461 * c + 365 * e + r) 4 (1461 * c + 365 * e + r) c (365 * e + r) 4 r y m d w hM h0 h9 hA ha hR (by omega) (by omega) (by omega) (by omega) (by omega) (by omega) (by omega) (by omega) (by omega) (by omega) (by omega) (by omega) (by omega) h2 h.m1 h.m2 h.d1 h.d2 hr
    · exact date_le_gt n a (36524 * b + 1461 * c + 365 * e + r) b (1461 * c + 365 * e + r) c (365 * e + r) 4 r y m d w hM h0 h9 hA ha hR (by omega) (by omega) (by omega) (by omega) (by omega) (by omega) (by omega) (by omega) (by omega) (by omega) (by omega) (by omega) (by omega) h2 h.m1 h.m2 h.d1 h.d2 hr
  · have hr364 : r ≤ 364 := by
      rcases hl with ⟨h, hh⟩ | ⟨_, h⟩
      · have := (hlp h).1
        omega
      · omega
    exact date_le_le n a (36524 * b + 1461 * c + 365 * e + r) b (1461 * c + 365 * e + r) c (365 * e + r) e r y m d w hM h0 h9 hA ha hR (by omega) (by omega) (by omega) (by omega) (by omega) (by omega) (by omega) (by omega) (by omega) (by omega) (by omega) (by omega) (by omega) h2 h.m1 h.m2 h.d1 h.d2 hr
end Go.Proofs.YtbenciieenbmeaaGreatDoor
