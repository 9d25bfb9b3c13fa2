import Derived.Test.YtcafhmlpmbkhkaaGreatDoorW12
namespace Go.Proofs.YtcafhmlpmbkhkaaGreatDoor
open Go.ChangeShapes Go.WideShapes Go.ChangeAt Go.RowKit
set_option linter.unusedVariables false

theorem retSI {a b : ByteArray} {c d : Int} (h : a = b) (k : c = d) : Ending.returned (.tuple #[.string a, .int .i64 c]) = .returned (.tuple #[.string b, .int .i64 d]) := by rw [h, k]
set_option maxHeartbeats 1000000 in
theorem rprint_arg (a d : Int) (w : World) (h : d < 0 ∨ 6 < d) : Calls Tryz.prog 142 #[.int .i64 a, .int .i64 d] w fun e w' => e = .returned (.tuple #[.string ⟨#[]⟩, .int .i64 1]) ∧ w' = w := by
  rcases h with h | h
  all_goals
    go_enter Tryz.func142, Tryz.ntmps142
    go_wp2
    go_ret2
    exact ⟨rfl, rfl⟩
set_option maxHeartbeats 1000000 in
theorem rprint_min (d : Int) (w : World) (h : 0 ≤ d) (h' : d ≤ 6) : Calls Tryz.prog 142 #[.int .i64 (-9223372036854775808), .int .i64 d] w fun e w' => e = .returned (.tuple #[.string ⟨#[]⟩, .int .i64 10]) ∧ w' = w := by
  go_enter Tryz.func142, Tryz.ntmps142
  go_wp2_with (go_at_call 143; refine (isNo _).mono ?_; rintro e w' ⟨rfl, hw⟩; subst hw)
  go_ret2
  exact ⟨rfl, rfl⟩
theorem digits_at (z : Int) (v least : Nat) (hz : z = v) (w : World) (h1 : v ≤ 9223372036854775807) (h2 : least ≤ 6) : Calls Tryz.prog 172 #[.int .i64 z, .int .i64 least] w fun e w' => e = .returned (.string ⟨(dmin 40 v least).toArray⟩) ∧ Below w.heap.size w w' := by
  rw [hz]
  exact digits_any v least w h1 h2
theorem dmin_len : ∀ (f v l : Nat), (dmin f v l).length ≤ f
  | 0, _, _ => by simp [dmin]
  | f + 1, v, l => by
    by_cases h : 0 < v ∨ 0 < l
    · rw [dmin_go h, List.length_append]
      have := dmin_len f (v / 10) (l - 1)
      simp
      omega
    · rw [dmin_end h]; simp
theorem txt_neg0 (a : Int) (u : Nat) (hu : a.natAbs = u) (h : a < 0) : (⟨#[45]⟩ : ByteArray) ++ ⟨(dmin 40 u 1).toArray⟩ = ⟨(txt a 0).toArray⟩ := by
  rw [show (⟨#[45]⟩ : ByteArray) = ⟨[45].toArray⟩ from rfl, bapp]
  simp [txt, h, hu]
theorem txt_pos0 (a : Int) (u : Nat) (hu : a.natAbs = u) (h : ¬ a < 0) : (⟨(dmin 40 u 1).toArray⟩ : ByteArray) = ⟨(txt a 0).toArray⟩ := by
  simp [txt, h, hu]
theorem txt_neg (a : Int) (u d : Nat) (hu : a.natAbs = u) (h : a < 0) (hd : d ≠ 0) : (⟨#[45]⟩ : ByteArray) ++ ⟨(dmin 40 (u / 10 ^ d) 1).toArray⟩ ++ ⟨#[46]⟩ ++ ⟨(dmin 40 (u % 10 ^ d) d).toArray⟩ = ⟨(txt a d).toArray⟩ := by
  rw [show (⟨#[45]⟩ : ByteArray) = ⟨[45].toArray⟩ from rfl, show (⟨#[46]⟩ : ByteArray) = ⟨[46].toArray⟩ from rfl, bapp, bapp, bapp]
  simp [txt, h, hu, hd]
theorem txt_pos (a : Int) (u d : Nat) (hu : a.natAbs = u) (h : ¬ a < 0) (hd : d ≠ 0) : (⟨(dmin 40 (u / 10 ^ d) 1).toArray⟩ : ByteArray) ++ ⟨#[46]⟩ ++ ⟨(dmin 40 (u % 10 ^ d) d).toArray⟩ = ⟨(txt a d).toArray⟩ := by
  rw [show (⟨#[46]⟩ : ByteArray) = ⟨[46].toArray⟩ from rfl, bapp, bapp]
  simp [txt, h, hu, hd]

set_option maxRecDepth 100000 in
set_option maxHeartbeats 2000000 in
theorem rprint0_n (a : Int) (u : Nat) (hu : Hid (a.natAbs = u)) (w : World) (h1 : -9223372036854775807 ≤ a) (h2 : a ≤ 9223372036854775807) (hn : a < 0) : Calls Tryz.prog 142 #[.int .i64 a, .int .i64 0] w fun e w' => e = .returned (.tuple #[.string ⟨(txt a 0).toArray⟩, .int .i64 0]) ∧ Below w.heap.size w w' := by
  have hub : u ≤ 9223372036854775807 := by have := unhide hu; omega
  have ea : -a = (u : Int) := by have := unhide hu; omega
  have q1 := hide (show (u) ≤ 9223372036854775807 from hub)
  have q2 := hide (show (u % 10 ^ 0) ≤ 9223372036854775807 from Nat.le_trans (Nat.mod_le _ _) hub)
  have l1 : (dmin 40 (u) 1).length ≤ 40 := dmin_len 40 _ 1
  have l2 : (dmin 40 (u % 10 ^ 0) 0).length ≤ 40 := dmin_len 40 _ 0
  simp only [Nat.reducePow] at l2
  go_enter Tryz.func142, Tryz.ntmps142
  go_wp2_with (first | (go_at_call 143; refine (isYes _ _ (by omega)).mono ?_; rintro e w' ⟨rfl, hw⟩; subst hw) | (go_at_call 200; refine (ten_any 0 _ (by decide)).mono ?_; rintro e w' ⟨rfl, hw⟩; subst hw))
  refine (digits_at _ (u) 1 (by simp) _ (unhide q1) (by decide)).mono ?_
  rintro e w1 ⟨rfl, hb1⟩
  go_wp2
  go_ret2
  exact ⟨retSI (txt_neg0 _ u (unhide hu) (by omega)) rfl, hb1⟩

set_option maxRecDepth 100000 in
set_option maxHeartbeats 2000000 in
theorem rprint0_p (a : Int) (u : Nat) (hu : Hid (a.natAbs = u)) (w : World) (h1 : -9223372036854775807 ≤ a) (h2 : a ≤ 9223372036854775807) (hn : ¬ a < 0) : Calls Tryz.prog 142 #[.int .i64 a, .int .i64 0] w fun e w' => e = .returned (.tuple #[.string ⟨(txt a 0).toArray⟩, .int .i64 0]) ∧ Below w.heap.size w w' := by
  have hub : u ≤ 9223372036854775807 := by have := unhide hu; omega
  have ea : a = (u : Int) := by have := unhide hu; omega
  subst ea
  have b0 : (0 : Int) ≤ (u : Int) := by omega
  have q1 := hide (show (u) ≤ 9223372036854775807 from hub)
  have q2 := hide (show (u % 10 ^ 0) ≤ 9223372036854775807 from Nat.le_trans (Nat.mod_le _ _) hub)
  have l1 : (dmin 40 (u) 1).length ≤ 40 := dmin_len 40 _ 1
  have l2 : (dmin 40 (u % 10 ^ 0) 0).length ≤ 40 := dmin_len 40 _ 0
  simp only [Nat.reducePow] at l2
  go_enter Tryz.func142, Tryz.ntmps142
  go_wp2_with (first | (go_at_call 143; refine (isYes _ _ (by omega)).mono ?_; rintro e w' ⟨rfl, hw⟩; subst hw) | (go_at_call 200; refine (ten_any 0 _ (by decide)).mono ?_; rintro e w' ⟨rfl, hw⟩; subst hw))
  refine (digits_at _ (u) 1 (by simp) _ (unhide q1) (by decide)).mono ?_
  rintro e w1 ⟨rfl, hb1⟩
  go_wp2
  go_ret2
  exact ⟨retSI (txt_pos0 _ u (unhide hu) (by omega)) rfl, hb1⟩

set_option maxRecDepth 100000 in
set_option maxHeartbeats 2000000 in
theorem rprint1_n (a : Int) (u : Nat) (hu : Hid (a.natAbs = u)) (w : World) (h1 : -9223372036854775807 ≤ a) (h2 : a ≤ 9223372036854775807) (hn : a < 0) : Calls Tryz.prog 142 #[.int .i64 a, .int .i64 1] w fun e w' => e = .returned (.tuple #[.string ⟨(txt a 1).toArray⟩, .int .i64 0]) ∧ Below w.heap.size w w' := by
  have hub : u ≤ 9223372036854775807 := by have := unhide hu; omega
  have ea : -a = (u : Int) := by have := unhide hu; omega
  have q1 := hide (show (u / 10 ^ 1) ≤ 9223372036854775807 from Nat.le_trans (Nat.div_le_self _ _) hub)
  have q2 := hide (show (u % 10 ^ 1) ≤ 9223372036854775807 from Nat.le_trans (Nat.mod_le _ _) hub)
  have l1 : (dmin 40 (u / 10 ^ 1) 1).length ≤ 40 := dmin_len 40 _ 1
  have l2 : (dmin 40 (u % 10 ^ 1) 1).length ≤ 40 := dmin_len 40 _ 1
  simp only [Nat.reducePow] at l1 l2
  go_enter Tryz.func142, Tryz.ntmps142
  go_wp2_with (first | (go_at_call 143; refine (isYes _ _ (by omega)).mono ?_; rintro e w' ⟨rfl, hw⟩; subst hw) | (go_at_call 200; refine (ten_any 1 _ (by decide)).mono ?_; rintro e w' ⟨rfl, hw⟩; subst hw))
  refine (digits_at _ (u / 10 ^ 1) 1 (by simp) _ (unhide q1) (by decide)).mono ?_
  rintro e w1 ⟨rfl, hb1⟩
  go_wp2_with (first | (go_at_call 200; refine (ten_any 1 _ (by decide)).mono ?_; rintro e w' ⟨rfl, hw⟩; subst hw))
  refine (digits_at _ (u % 10 ^ 1) 1 (by simp) _ (unhide q2) (by decide)).mono ?_
  rintro e w2 ⟨rfl, hb2⟩
  go_wp2
  go_ret2
  exact ⟨retSI (txt_neg _ u 1 (unhide hu) (by omega) (by decide)) rfl, hb1.trans (hb2.mono hb1.size)⟩

set_option maxRecDepth 100000 in
set_option maxHeartbeats 2000000 in
theorem rprint1_p (a : Int) (u : Nat) (hu : Hid (a.natAbs = u)) (w : World) (h1 : -9223372036854775807 ≤ a) (h2 : a ≤ 9223372036854775807) (hn : ¬ a < 0) : Calls Tryz.prog 142 #[.int .i64 a, .int .i64 1] w fun e w' => e = .returned (.tuple #[.string ⟨(txt a 1).toArray⟩, .int .i64 0]) ∧ Below w.heap.size w w' := by
  have hub : u ≤ 9223372036854775807 := by have := unhide hu; omega
  have ea : a = (u : Int) := by have := unhide hu; omega
  subst ea
  have b0 : (0 : Int) ≤ (u : Int) := by omega
  have q1 := hide (show (u / 10 ^ 1) ≤ 9223372036854775807 from Nat.le_trans (Nat.div_le_self _ _) hub)
  have q2 := hide (show (u % 10 ^ 1) ≤ 9223372036854775807 from Nat.le_trans (Nat.mod_le _ _) hub)
  have l1 : (dmin 40 (u / 10 ^ 1) 1).length ≤ 40 := dmin_len 40 _ 1
  have l2 : (dmin 40 (u % 10 ^ 1) 1).length ≤ 40 := dmin_len 40 _ 1
  simp only [Nat.reducePow] at l1 l2
  go_enter Tryz.func142, Tryz.ntmps142
  go_wp2_with (first | (go_at_call 143; refine (isYes _ _ (by omega)).mono ?_; rintro e w' ⟨rfl, hw⟩; subst hw) | (go_at_call 200; refine (ten_any 1 _ (by decide)).mono ?_; rintro e w' ⟨rfl, hw⟩; subst hw))
  refine (digits_at _ (u / 10 ^ 1) 1 (by simp) _ (unhide q1) (by decide)).mono ?_
  rintro e w1 ⟨rfl, hb1⟩
  go_wp2_with (first | (go_at_call 200; refine (ten_any 1 _ (by decide)).mono ?_; rintro e w' ⟨rfl, hw⟩; subst hw))
  refine (digits_at _ (u % 10 ^ 1) 1 (by simp) _ (unhide q2) (by decide)).mono ?_
  rintro e w2 ⟨rfl, hb2⟩
  go_wp2
  go_ret2
  exact ⟨retSI (txt_pos _ u 1 (unhide hu) (by omega) (by decide)) rfl, hb1.trans (hb2.mono hb1.size)⟩

set_option maxRecDepth 100000 in
set_option maxHeartbeats 2000000 in
theorem rprint2_n (a : Int) (u : Nat) (hu : Hid (a.natAbs = u)) (w : World) (h1 : -9223372036854775807 ≤ a) (h2 : a ≤ 9223372036854775807) (hn : a < 0) : Calls Tryz.prog 142 #[.int .i64 a, .int .i64 2] w fun e w' => e = .returned (.tuple #[.string ⟨(txt a 2).toArray⟩, .int .i64 0]) ∧ Below w.heap.size w w' := by
  have hub : u ≤ 9223372036854775807 := by have := unhide hu; omega
  have ea : -a = (u : Int) := by have := unhide hu; omega
  have q1 := hide (show (u / 10 ^ 2) ≤ 9223372036854775807 from Nat.le_trans (Nat.div_le_self _ _) hub)
  have q2 := hide (show (u % 10 ^ 2) ≤ 9223372036854775807 from Nat.le_trans (Nat.mod_le _ _) hub)
  have l1 : (dmin 40 (u / 10 ^ 2) 1).length ≤ 40 := dmin_len 40 _ 1
  have l2 : (dmin 40 (u % 10 ^ 2) 2).length ≤ 40 := dmin_len 40 _ 2
  simp only [Nat.reducePow] at l1 l2
  go_enter Tryz.func142, Tryz.ntmps142
  go_wp2_with (first | (go_at_call 143; refine (isYes _ _ (by omega)).mono ?_; rintro e w' ⟨rfl, hw⟩; subst hw) | (go_at_call 200; refine (ten_any 2 _ (by decide)).mono ?_; rintro e w' ⟨rfl, hw⟩; subst hw))
  refine (digits_at _ (u / 10 ^ 2) 1 (by simp) _ (unhide q1) (by decide)).mono ?_
  rintro e w1 ⟨rfl, hb1⟩
  go_wp2_with (first | (go_at_call 200; refine (ten_any 2 _ (by decide)).mono ?_; rintro e w' ⟨rfl, hw⟩; subst hw))
  refine (digits_at _ (u % 10 ^ 2) 2 (by simp) _ (unhide q2) (by decide)).mono ?_
  rintro e w2 ⟨rfl, hb2⟩
  go_wp2
  go_ret2
  exact ⟨retSI (txt_neg _ u 2 (unhide hu) (by omega) (by decide)) rfl, hb1.trans (hb2.mono hb1.size)⟩

set_option maxRecDepth 100000 in
set_option maxHeartbeats 2000000 in
theorem rprint2_p (a : Int) (u : Nat) (hu : Hid (a.natAbs = u)) (w : World) (h1 : -9223372036854775807 ≤ a) (h2 : a ≤ 9223372036854775807) (hn : ¬ a < 0) : Calls Tryz.prog 142 #[.int .i64 a, .int .i64 2] w fun e w' => e = .returned (.tuple #[.string ⟨(txt a 2).toArray⟩, .int .i64 0]) ∧ Below w.heap.size w w' := by
  have hub : u ≤ 9223372036854775807 := by have := unhide hu; omega
  have ea : a = (u : Int) := by have := unhide hu; omega
  subst ea
  have b0 : (0 : Int) ≤ (u : Int) := by omega
  have q1 := hide (show (u / 10 ^ 2) ≤ 9223372036854775807 from Nat.le_trans (Nat.div_le_self _ _) hub)
  have q2 := hide (show (u % 10 ^ 2) ≤ 9223372036854775807 from Nat.le_trans (Nat.mod_le _ _) hub)
  have l1 : (dmin 40 (u / 10 ^ 2) 1).length ≤ 40 := dmin_len 40 _ 1
  have l2 : (dmin 40 (u % 10 ^ 2) 2).length ≤ 40 := dmin_len 40 _ 2
  simp only [Nat.reducePow] at l1 l2
  go_enter Tryz.func142, Tryz.ntmps142
  go_wp2_with (first | (go_at_call 143; refine (isYes _ _ (by omega)).mono ?_; rintro e w' ⟨rfl, hw⟩; subst hw) | (go_at_call 200; refine (ten_any 2 _ (by decide)).mono ?_; rintro e w' ⟨rfl, hw⟩; subst hw))
  refine (digits_at _ (u / 10 ^ 2) 1 (by simp) _ (unhide q1) (by decide)).mono ?_
  rintro e w1 ⟨rfl, hb1⟩
  go_wp2_with (first | (go_at_call 200; refine (ten_any 2 _ (by decide)).mono ?_; rintro e w' ⟨rfl, hw⟩; subst hw))
  refine (digits_at _ (u % 10 ^ 2) 2 (by simp) _ (unhide q2) (by decide)).mono ?_
  rintro e w2 ⟨rfl, hb2⟩
  go_wp2
  go_ret2
  exact ⟨retSI (txt_pos _ u 2 (unhide hu) (by omega) (by decide)) rfl, hb1.trans (hb2.mono hb1.size)⟩

set_option maxRecDepth 100000 in
set_option maxHeartbeats 2000000 in
theorem rprint3_n (a : Int) (u : Nat) (hu : Hid (a.natAbs = u)) (w : World) (h1 : -9223372036854775807 ≤ a) (h2 : a ≤ 9223372036854775807) (hn : a < 0) : Calls Tryz.prog 142 #[.int .i64 a, .int .i64 3] w fun e w' => e = .returned (.tuple #[.string ⟨(txt a 3).toArray⟩, .int .i64 0]) ∧ Below w.heap.size w w' := by
  have hub : u ≤ 9223372036854775807 := by have := unhide hu; omega
  have ea : -a = (u : Int) := by have := unhide hu; omega
  have q1 := hide (show (u / 10 ^ 3) ≤ 9223372036854775807 from Nat.le_trans (Nat.div_le_self _ _) hub)
  have q2 := hide (show (u % 10 ^ 3) ≤ 9223372036854775807 from Nat.le_trans (Nat.mod_le _ _) hub)
  have l1 : (dmin 40 (u / 10 ^ 3) 1).length ≤ 40 := dmin_len 40 _ 1
  have l2 : (dmin 40 (u % 10 ^ 3) 3).length ≤ 40 := dmin_len 40 _ 3
  simp only [Nat.reducePow] at l1 l2
  go_enter Tryz.func142, Tryz.ntmps142
  go_wp2_with (first | (go_at_call 143; refine (isYes _ _ (by omega)).mono ?_; rintro e w' ⟨rfl, hw⟩; subst hw) | (go_at_call 200; refine (ten_any 3 _ (by decide)).mono ?_; rintro e w' ⟨rfl, hw⟩; subst hw))
  refine (digits_at _ (u / 10 ^ 3) 1 (by simp) _ (unhide q1) (by decide)).mono ?_
  rintro e w1 ⟨rfl, hb1⟩
  go_wp2_with (first | (go_at_call 200; refine (ten_any 3 _ (by decide)).mono ?_; rintro e w' ⟨rfl, hw⟩; subst hw))
  refine (digits_at _ (u % 10 ^ 3) 3 (by simp) _ (unhide q2) (by decide)).mono ?_
  rintro e w2 ⟨rfl, hb2⟩
  go_wp2
  go_ret2
  exact ⟨retSI (txt_neg _ u 3 (unhide hu) (by omega) (by decide)) rfl, hb1.trans (hb2.mono hb1.size)⟩

set_option maxRecDepth 100000 in
set_option maxHeartbeats 2000000 in
theorem rprint3_p (a : Int) (u : Nat) (hu : Hid (a.natAbs = u)) (w : World) (h1 : -9223372036854775807 ≤ a) (h2 : a ≤ 9223372036854775807) (hn : ¬ a < 0) : Calls Tryz.prog 142 #[.int .i64 a, .int .i64 3] w fun e w' => e = .returned (.tuple #[.string ⟨(txt a 3).toArray⟩, .int .i64 0]) ∧ Below w.heap.size w w' := by
  have hub : u ≤ 9223372036854775807 := by have := unhide hu; omega
  have ea : a = (u : Int) := by have := unhide hu; omega
  subst ea
  have b0 : (0 : Int) ≤ (u : Int) := by omega
  have q1 := hide (show (u / 10 ^ 3) ≤ 9223372036854775807 from Nat.le_trans (Nat.div_le_self _ _) hub)
  have q2 := hide (show (u % 10 ^ 3) ≤ 9223372036854775807 from Nat.le_trans (Nat.mod_le _ _) hub)
  have l1 : (dmin 40 (u / 10 ^ 3) 1).length ≤ 40 := dmin_len 40 _ 1
  have l2 : (dmin 40 (u % 10 ^ 3) 3).length ≤ 40 := dmin_len 40 _ 3
  simp only [Nat.reducePow] at l1 l2
  go_enter Tryz.func142, Tryz.ntmps142
  go_wp2_with (first | (go_at_call 143; refine (isYes _ _ (by omega)).mono ?_; rintro e w' ⟨rfl, hw⟩; subst hw) | (go_at_call 200; refine (ten_any 3 _ (by decide)).mono ?_; rintro e w' ⟨rfl, hw⟩; subst hw))
  refine (digits_at _ (u / 10 ^ 3) 1 (by simp) _ (unhide q1) (by decide)).mono ?_
  rintro e w1 ⟨rfl, hb1⟩
  go_wp2_with (first | (go_at_call 200; refine (ten_any 3 _ (by decide)).mono ?_; rintro e w' ⟨rfl, hw⟩; subst hw))
  refine (digits_at _ (u % 10 ^ 3) 3 (by simp) _ (unhide q2) (by decide)).mono ?_
  rintro e w2 ⟨rfl, hb2⟩
  go_wp2
  go_ret2
  exact ⟨retSI (txt_pos _ u 3 (unhide hu) (by omega) (by decide)) rfl, hb1.trans (hb2.mono hb1.size)⟩

set_option maxRecDepth 100000 in
set_option maxHeartbeats 2000000 in
theorem rprint4_n (a : Int) (u : Nat) (hu : Hid (a.natAbs = u)) (w : World) (h1 : -9223372036854775807 ≤ a) (h2 : a ≤ 9223372036854775807) (hn : a < 0) : Calls Tryz.prog 142 #[.int .i64 a, .int .i64 4] w fun e w' => e = .returned (.tuple #[.string ⟨(txt a 4).toArray⟩, .int .i64 0]) ∧ Below w.heap.size w w' := by
  have hub : u ≤ 9223372036854775807 := by have := unhide hu; omega
  have ea : -a = (u : Int) := by have := unhide hu; omega
  have q1 := hide (show (u / 10 ^ 4) ≤ 9223372036854775807 from Nat.le_trans (Nat.div_le_self _ _) hub)
  have q2 := hide (show (u % 10 ^ 4) ≤ 9223372036854775807 from Nat.le_trans (Nat.mod_le _ _) hub)
  have l1 : (dmin 40 (u / 10 ^ 4) 1).length ≤ 40 := dmin_len 40 _ 1
  have l2 : (dmin 40 (u % 10 ^ 4) 4).length ≤ 40 := dmin_len 40 _ 4
  simp only [Nat.reducePow] at l1 l2
  go_enter Tryz.func142, Tryz.ntmps142
  go_wp2_with (first | (go_at_call 143; refine (isYes _ _ (by omega)).mono ?_; rintro e w' ⟨rfl, hw⟩; subst hw) | (go_at_call 200; refine (ten_any 4 _ (by decide)).mono ?_; rintro e w' ⟨rfl, hw⟩; subst hw))
  refine (digits_at _ (u / 10 ^ 4) 1 (by simp) _ (unhide q1) (by decide)).mono ?_
  rintro e w1 ⟨rfl, hb1⟩
  go_wp2_with (first | (go_at_call 200; refine (ten_any 4 _ (by decide)).mono ?_; rintro e w' ⟨rfl, hw⟩; subst hw))
  refine (digits_at _ (u % 10 ^ 4) 4 (by simp) _ (unhide q2) (by decide)).mono ?_
  rintro e w2 ⟨rfl, hb2⟩
  go_wp2
  go_ret2
  exact ⟨retSI (txt_neg _ u 4 (unhide hu) (by omega) (by decide)) rfl, hb1.trans (hb2.mono hb1.size)⟩

set_option maxRecDepth 100000 in
set_option maxHeartbeats 2000000 in
theorem rprint4_p (a : Int) (u : Nat) (hu : Hid (a.natAbs = u)) (w : World) (h1 : -9223372036854775807 ≤ a) (h2 : a ≤ 9223372036854775807) (hn : ¬ a < 0) : Calls Tryz.prog 142 #[.int .i64 a, .int .i64 4] w fun e w' => e = .returned (.tuple #[.string ⟨(txt a 4).toArray⟩, .int .i64 0]) ∧ Below w.heap.size w w' := by
  have hub : u ≤ 9223372036854775807 := by have := unhide hu; omega
  have ea : a = (u : Int) := by have := unhide hu; omega
  subst ea
  have b0 : (0 : Int) ≤ (u : Int) := by omega
  have q1 := hide (show (u / 10 ^ 4) ≤ 9223372036854775807 from Nat.le_trans (Nat.div_le_self _ _) hub)
  have q2 := hide (show (u % 10 ^ 4) ≤ 9223372036854775807 from Nat.le_trans (Nat.mod_le _ _) hub)
  have l1 : (dmin 40 (u / 10 ^ 4) 1).length ≤ 40 := dmin_len 40 _ 1
  have l2 : (dmin 40 (u % 10 ^ 4) 4).length ≤ 40 := dmin_len 40 _ 4
  simp only [Nat.reducePow] at l1 l2
  go_enter Tryz.func142, Tryz.ntmps142
  go_wp2_with (first | (go_at_call 143; refine (isYes _ _ (by omega)).mono ?_; rintro e w' ⟨rfl, hw⟩; subst hw) | (go_at_call 200; refine (ten_any 4 _ (by decide)).mono ?_; rintro e w' ⟨rfl, hw⟩; subst hw))
  refine (digits_at _ (u / 10 ^ 4) 1 (by simp) _ (unhide q1) (by decide)).mono ?_
  rintro e w1 ⟨rfl, hb1⟩
  go_wp2_with (first | (go_at_call 200; refine (ten_any 4 _ (by decide)).mono ?_; rintro e w' ⟨rfl, hw⟩; subst hw))
  refine (digits_at _ (u % 10 ^ 4) 4 (by simp) _ (unhide q2) (by decide)).mono ?_
  rintro e w2 ⟨rfl, hb2⟩
  go_wp2
  go_ret2
  exact ⟨retSI (txt_pos _ u 4 (unhide hu) (by omega) (by decide)) rfl, hb1.trans (hb2.mono hb1.size)⟩

set_option maxRecDepth 100000 in
set_option maxHeartbeats 2000000 in
theorem rprint5_n (a : Int) (u : Nat) (hu : Hid (a.natAbs = u)) (w : World) (h1 : -9223372036854775807 ≤ a) (h2 : a ≤ 9223372036854775807) (hn : a < 0) : Calls Tryz.prog 142 #[.int .i64 a, .int .i64 5] w fun e w' => e = .returned (.tuple #[.string ⟨(txt a 5).toArray⟩, .int .i64 0]) ∧ Below w.heap.size w w' := by
  have hub : u ≤ 9223372036854775807 := by have := unhide hu; omega
  have ea : -a = (u : Int) := by have := unhide hu; omega
  have q1 := hide (show (u / 10 ^ 5) ≤ 9223372036854775807 from Nat.le_trans (Nat.div_le_self _ _) hub)
  have q2 := hide (show (u % 10 ^ 5) ≤ 9223372036854775807 from Nat.le_trans (Nat.mod_le _ _) hub)
  have l1 : (dmin 40 (u / 10 ^ 5) 1).length ≤ 40 := dmin_len 40 _ 1
  have l2 : (dmin 40 (u % 10 ^ 5) 5).length ≤ 40 := dmin_len 40 _ 5
  simp only [Nat.reducePow] at l1 l2
  go_enter Tryz.func142, Tryz.ntmps142
  go_wp2_with (first | (go_at_call 143; refine (isYes _ _ (by omega)).mono ?_; rintro e w' ⟨rfl, hw⟩; subst hw) | (go_at_call 200; refine (ten_any 5 _ (by decide)).mono ?_; rintro e w' ⟨rfl, hw⟩; subst hw))
  refine (digits_at _ (u / 10 ^ 5) 1 (by simp) _ (unhide q1) (by decide)).mono ?_
  rintro e w1 ⟨rfl, hb1⟩
  go_wp2_with (first | (go_at_call 200; refine (ten_any 5 _ (by decide)).mono ?_; rintro e w' ⟨rfl, hw⟩; subst hw))
  refine (digits_at _ (u % 10 ^ 5) 5 (by simp) _ (unhide q2) (by decide)).mono ?_
  rintro e w2 ⟨rfl, hb2⟩
  go_wp2
  go_ret2
  exact ⟨retSI (txt_neg _ u 5 (unhide hu) (by omega) (by decide)) rfl, hb1.trans (hb2.mono hb1.size)⟩

set_option maxRecDepth 100000 in
set_option maxHeartbeats 2000000 in
theorem rprint5_p (a : Int) (u : Nat) (hu : Hid (a.natAbs = u)) (w : World) (h1 : -9223372036854775807 ≤ a) (h2 : a ≤ 9223372036854775807) (hn : ¬ a < 0) : Calls Tryz.prog 142 #[.int .i64 a, .int .i64 5] w fun e w' => e = .returned (.tuple #[.string ⟨(txt a 5).toArray⟩, .int .i64 0]) ∧ Below w.heap.size w w' := by
  have hub : u ≤ 9223372036854775807 := by have := unhide hu; omega
  have ea : a = (u : Int) := by have := unhide hu; omega
  subst ea
  have b0 : (0 : Int) ≤ (u : Int) := by omega
  have q1 := hide (show (u / 10 ^ 5) ≤ 9223372036854775807 from Nat.le_trans (Nat.div_le_self _ _) hub)
  have q2 := hide (show (u % 10 ^ 5) ≤ 9223372036854775807 from Nat.le_trans (Nat.mod_le _ _) hub)
  have l1 : (dmin 40 (u / 10 ^ 5) 1).length ≤ 40 := dmin_len 40 _ 1
  have l2 : (dmin 40 (u % 10 ^ 5) 5).length ≤ 40 := dmin_len 40 _ 5
  simp only [Nat.reducePow] at l1 l2
  go_enter Tryz.func142, Tryz.ntmps142
  go_wp2_with (first | (go_at_call 143; refine (isYes _ _ (by omega)).mono ?_; rintro e w' ⟨rfl, hw⟩; subst hw) | (go_at_call 200; refine (ten_any 5 _ (by decide)).mono ?_; rintro e w' ⟨rfl, hw⟩; subst hw))
  refine (digits_at _ (u / 10 ^ 5) 1 (by simp) _ (unhide q1) (by decide)).mono ?_
  rintro e w1 ⟨rfl, hb1⟩
  go_wp2_with (first | (go_at_call 200; refine (ten_any 5 _ (by decide)).mono ?_; rintro e w' ⟨rfl, hw⟩; subst hw))
  refine (digits_at _ (u % 10 ^ 5) 5 (by simp) _ (unhide q2) (by decide)).mono ?_
  rintro e w2 ⟨rfl, hb2⟩
  go_wp2
  go_ret2
  exact ⟨retSI (txt_pos _ u 5 (unhide hu) (by omega) (by decide)) rfl, hb1.trans (hb2.mono hb1.size)⟩

set_option maxRecDepth 100000 in
set_option maxHeartbeats 2000000 in
theorem rprint6_n (a : Int) (u : Nat) (hu : Hid (a.natAbs = u)) (w : World) (h1 : -9223372036854775807 ≤ a) (h2 : a ≤ 9223372036854775807) (hn : a < 0) : Calls Tryz.prog 142 #[.int .i64 a, .int .i64 6] w fun e w' => e = .returned (.tuple #[.string ⟨(txt a 6).toArray⟩, .int .i64 0]) ∧ Below w.heap.size w w' := by
  have hub : u ≤ 9223372036854775807 := by have := unhide hu; omega
  have ea : -a = (u : Int) := by have := unhide hu; omega
  have q1 := hide (show (u / 10 ^ 6) ≤ 9223372036854775807 from Nat.le_trans (Nat.div_le_self _ _) hub)
  have q2 := hide (show (u % 10 ^ 6) ≤ 9223372036854775807 from Nat.le_trans (Nat.mod_le _ _) hub)
  have l1 : (dmin 40 (u / 10 ^ 6) 1).length ≤ 40 := dmin_len 40 _ 1
  have l2 : (dmin 40 (u % 10 ^ 6) 6).length ≤ 40 := dmin_len 40 _ 6
  simp only [Nat.reducePow] at l1 l2
  go_enter Tryz.func142, Tryz.ntmps142
  go_wp2_with (first | (go_at_call 143; refine (isYes _ _ (by omega)).mono ?_; rintro e w' ⟨rfl, hw⟩; subst hw) | (go_at_call 200; refine (ten_any 6 _ (by decide)).mono ?_; rintro e w' ⟨rfl, hw⟩; subst hw))
  refine (digits_at _ (u / 10 ^ 6) 1 (by simp) _ (unhide q1) (by decide)).mono ?_
  rintro e w1 ⟨rfl, hb1⟩
  go_wp2_with (first | (go_at_call 200; refine (ten_any 6 _ (by decide)).mono ?_; rintro e w' ⟨rfl, hw⟩; subst hw))
  refine (digits_at _ (u % 10 ^ 6) 6 (by simp) _ (unhide q2) (by decide)).mono ?_
  rintro e w2 ⟨rfl, hb2⟩
  go_wp2
  go_ret2
  exact ⟨retSI (txt_neg _ u 6 (unhide hu) (by omega) (by decide)) rfl, hb1.trans (hb2.mono hb1.size)⟩

set_option maxRecDepth 100000 in
set_option maxHeartbeats 2000000 in
theorem rprint6_p (a : Int) (u : Nat) (hu : Hid (a.natAbs = u)) (w : World) (h1 : -9223372036854775807 ≤ a) (h2 : a ≤ 9223372036854775807) (hn : ¬ a < 0) : Calls Tryz.prog 142 #[.int .i64 a, .int .i64 6] w fun e w' => e = .returned (.tuple #[.string ⟨(txt a 6).toArray⟩, .int .i64 0]) ∧ Below w.heap.size w w' := by
  have hub : u ≤ 9223372036854775807 := by have := unhide hu; omega
  have ea : a = (u : Int) := by have := unhide hu; omega
  subst ea
  have b0 : (0 : Int) ≤ (u : Int) := by omega
  have q1 := hide (show (u / 10 ^ 6) ≤ 9223372036854775807 from Nat.le_trans (Nat.div_le_self _ _) hub)
  have q2 := hide (show (u % 10 ^ 6) ≤ 9223372036854775807 from Nat.le_trans (Nat.mod_le _ _) hub)
  have l1 : (dmin 40 (u / 10 ^ 6) 1).length ≤ 40 := dmin_len 40 _ 1
  have l2 : (dmin 40 (u % 10 ^ 6) 6).length ≤ 40 := dmin_len 40 _ 6
  simp only [Nat.reducePow] at l1 l2
  go_enter Tryz.func142, Tryz.ntmps142
  go_wp2_with (first | (go_at_call 143; refine (isYes _ _ (by omega)).mono ?_; rintro e w' ⟨rfl, hw⟩; subst hw) | (go_at_call 200; refine (ten_any 6 _ (by decide)).mono ?_; rintro e w' ⟨rfl, hw⟩; subst hw))
  refine (digits_at _ (u / 10 ^ 6) 1 (by simp) _ (unhide q1) (by decide)).mono ?_
  rintro e w1 ⟨rfl, hb1⟩
  go_wp2_with (first | (go_at_call 200; refine (ten_any 6 _ (by decide)).mono ?_; rintro e w' ⟨rfl, hw⟩; subst hw))
  refine (digits_at _ (u % 10 ^ 6) 6 (by simp) _ (unhide q2) (by decide)).mono ?_
  rintro e w2 ⟨rfl, hb2⟩
  go_wp2
  go_ret2
  exact ⟨retSI (txt_pos _ u 6 (unhide hu) (by omega) (by decide)) rfl, hb1.trans (hb2.mono hb1.size)⟩
end Go.Proofs.YtcafhmlpmbkhkaaGreatDoor
