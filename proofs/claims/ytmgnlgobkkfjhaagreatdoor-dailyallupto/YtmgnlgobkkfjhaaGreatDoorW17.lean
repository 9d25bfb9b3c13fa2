import GoSem.Claim
import Derived.Test.YtmgnlgobkkfjhaaGreatDoorW03
import Derived.Laws.Externs
import Derived.Test.YtmgnlgobkkfjhaaGreatDoorW16
import Derived.Deep.Upon
/- Plain numbers: the sums of a list, above and below 0. Nothing of the program. -/
namespace Go.Proofs.YtmgnlgobkkfjhaaGreatDoor

def sumZ (zs : Nat → Int) : Nat → Int
  | 0 => 0
  | k + 1 => sumZ zs k + zs k
def upN (zs : Nat → Int) : Nat → Nat
  | 0 => 0
  | k + 1 => upN zs k + (if 0 ≤ zs k then (zs k).natAbs else 0)
def dnN (zs : Nat → Int) : Nat → Nat
  | 0 => 0
  | k + 1 => dnN zs k + (if 0 ≤ zs k then 0 else (zs k).natAbs)
def anyMin (zs : Nat → Int) : Nat → Bool
  | 0 => false
  | k + 1 => anyMin zs k || zs k == -9223372036854775808
/-- the document's answer of Sum: the sum and its error -/
def sumSpec (zs : Nat → Int) (len : Nat) : Int × Int :=
  if anyMin zs len then (0, 10)
  else if -9223372036854775808 < sumZ zs len ∧ sumZ zs len < 9223372036854775808 then (sumZ zs len, 0) else (0, 11)

theorem upN_pos {zs : Nat → Int} {k : Nat} (h : 0 ≤ zs k) : upN zs (k + 1) = upN zs k + (zs k).natAbs := by simp [upN, h]
theorem upN_neg {zs : Nat → Int} {k : Nat} (h : ¬ 0 ≤ zs k) : upN zs (k + 1) = upN zs k := by simp [upN, h]
theorem dnN_pos {zs : Nat → Int} {k : Nat} (h : 0 ≤ zs k) : dnN zs (k + 1) = dnN zs k := by simp [dnN, h]
theorem dnN_neg {zs : Nat → Int} {k : Nat} (h : ¬ 0 ≤ zs k) : dnN zs (k + 1) = dnN zs k + (zs k).natAbs := by simp [dnN, h]

theorem up_dn (zs : Nat → Int) : ∀ k, (upN zs k : Int) - dnN zs k = sumZ zs k
  | 0 => rfl
  | k + 1 => by
    have := up_dn zs k
    by_cases h : 0 ≤ zs k
    · rw [upN_pos h, dnN_pos h]; simp only [sumZ]; omega
    · rw [upN_neg h, dnN_neg h]; simp only [sumZ]; omega

theorem up_dn_bd (zs : Nat → Int) (len : Nat) (hz : ∀ k, k < len → -9223372036854775808 ≤ zs k ∧ zs k ≤ 9223372036854775807) : ∀ k, k ≤ len → upN zs k ≤ k * 9223372036854775808 ∧ dnN zs k ≤ k * 9223372036854775808
  | 0, _ => by simp [upN, dnN]
  | k + 1, hk => by
    have h1 := up_dn_bd zs len hz k (by omega)
    have h2 := hz k (by omega)
    have h3 : (zs k).natAbs ≤ 9223372036854775808 := by omega
    have h4 : (k + 1) * 9223372036854775808 = k * 9223372036854775808 + 9223372036854775808 := Nat.succ_mul _ _
    rw [h4]
    clear h2 hz h4
    generalize k * 9223372036854775808 = K at *
    by_cases h : 0 ≤ zs k
    · rw [upN_pos h, dnN_pos h]
      exact ⟨Nat.add_le_add h1.1 h3, Nat.le_trans h1.2 (Nat.le_add_right _ _)⟩
    · rw [upN_neg h, dnN_neg h]
      exact ⟨Nat.le_trans h1.1 (Nat.le_add_right _ _), Nat.add_le_add h1.2 h3⟩

theorem anyMin_mono (zs : Nat → Int) (k : Nat) (h : anyMin zs k = true) : ∀ j, k ≤ j → anyMin zs j = true
  | 0, hj => by
    have : k = 0 := by omega
    subst this
    exact h
  | j + 1, hj => by
    by_cases e : k = j + 1
    · subst e; exact h
    · have := anyMin_mono zs k h j (by omega)
      simp [anyMin, this]

theorem anyMin_ext {zs ys : Nat → Int} (n : Nat) (h : ∀ i, i < n → zs i = ys i) : anyMin zs n = anyMin ys n := by
  induction n with
  | zero => rfl
  | succ n ih => simp only [anyMin, ih (fun i hi => h i (by omega)), h n (by omega)]
theorem sumZ_ext {zs ys : Nat → Int} (n : Nat) (h : ∀ i, i < n → zs i = ys i) : sumZ zs n = sumZ ys n := by
  induction n with
  | zero => rfl
  | succ n ih => simp only [sumZ, ih (fun i hi => h i (by omega)), h n (by omega)]
theorem sumSpec_ext {zs ys : Nat → Int} (n : Nat) (h : ∀ i, i < n → zs i = ys i) : sumSpec zs n = sumSpec ys n := by
  simp only [sumSpec, anyMin_ext n h, sumZ_ext n h]

theorem sumSpec_bad {zs : Nat → Int} {len k : Nat} (hk : k < len) (hb : zs k = -9223372036854775808) : sumSpec zs len = (0, 10) := by
  have h1 : anyMin zs (k + 1) = true := by simp [anyMin, hb]
  have h2 := anyMin_mono zs (k + 1) h1 len (by omega)
  simp [sumSpec, h2]
theorem sumSpec_fits {zs : Nat → Int} {len : Nat} (h : anyMin zs len = false) (h1 : -9223372036854775808 < sumZ zs len) (h2 : sumZ zs len < 9223372036854775808) : sumSpec zs len = (sumZ zs len, 0) := by
  simp [sumSpec, h, h1, h2]
theorem sumSpec_over {zs : Nat → Int} {len : Nat} (h : anyMin zs len = false) (h1 : ¬ (-9223372036854775808 < sumZ zs len ∧ sumZ zs len < 9223372036854775808)) : sumSpec zs len = (0, 11) := by
  simp [sumSpec, h, h1]
theorem anyMin_step {zs : Nat → Int} {k : Nat} (h : anyMin zs k = false) (hk : ¬ zs k = -9223372036854775808) : anyMin zs (k + 1) = false := by
  simp [anyMin, h, hk]

/-- the sum of less than 2^104 numbers, in six words -/
theorem room (zs : Nat → Int) (len : Nat) (hl : len ≤ 9223372036854775807) (hz : ∀ k, k < len → -9223372036854775808 ≤ zs k ∧ zs k ≤ 9223372036854775807) (k : Nat) (hk : k ≤ len) : upN zs k < 340282366920938463463374607431768211456 ∧ dnN zs k < 340282366920938463463374607431768211456 := by
  have h := up_dn_bd zs len hz k hk
  have : k * 9223372036854775808 ≤ 9223372036854775807 * 9223372036854775808 := Nat.mul_le_mul_right _ (by omega)
  omega
end Go.Proofs.YtmgnlgobkkfjhaaGreatDoor
/- money: Check (19), Sum (30). -/
namespace Go.Proofs.YtmgnlgobkkfjhaaGreatDoor
open Go.ChangeShapes Go.WideShapes Go.ChangeAt Go.RowKit
set_option linter.unusedVariables false

set_option maxHeartbeats 1000000 in
theorem chk_yes (a : Int) (w : World) (h : -9223372036854775807 ≤ a) : Calls Tryz.prog 155 #[.int .i64 a] w fun e w' => e = .returned (.int .i64 0) ∧ w' = w := by
  have hb : (a == -9223372036854775808) = false := by rw [beq_eq_false_iff_ne]; omega
  clear h
  go_enter Tryz.func155, Tryz.ntmps155
  go_wp2
  go_ret
  exact ⟨rfl, rfl⟩
set_option maxHeartbeats 1000000 in
theorem chk_no (w : World) : Calls Tryz.prog 155 #[.int .i64 (-9223372036854775808)] w fun e w' => e = .returned (.int .i64 10) ∧ w' = w := by
  go_enter Tryz.func155, Tryz.ntmps155
  go_wp2
  go_ret
  exact ⟨rfl, rfl⟩
/-- the word above -/
def sgnW (a : Int) : Int := (a / 9223372036854775808) % 18446744073709551616
theorem uw_mod (a : Int) : IntKind.u64.wrap a = a % 18446744073709551616 := by
  simp only [IntKind.wrap, IntKind.bits, IntKind.signed, Bool.false_and, Bool.false_eq_true, if_false]
  omega
theorem sgnW_bd (a : Int) : 0 ≤ sgnW a ∧ sgnW a < 18446744073709551616 := by unfold sgnW; omega
set_option maxHeartbeats 1000000 in
theorem sgn_any (a : Int) (w : World) (h : -9223372036854775808 ≤ a) (h' : a ≤ 9223372036854775807) : Calls Tryz.prog 159 #[.int .i64 a] w fun e w' => e = .returned (.int .u64 (sgnW a)) ∧ w' = w := by
  have e := hide (uw_mod (a / 9223372036854775808))
  go_enter Tryz.func159, Tryz.ntmps159
  go_wp2
  go_ret
  exact ⟨by rw [show sgnW a = IntKind.u64.wrap (a / 9223372036854775808) from (unhide e).symm]; rfl, rfl⟩

theorem add64_at (x y c s k : Int) (hx : 0 ≤ x) (hy : 0 ≤ y) (hc0 : 0 ≤ c) (hc : c ≤ 1) (hs : (x + y + c) % 18446744073709551616 = s) (hk : (x + y + c) / 18446744073709551616 = k) (w : World) :
    (callFunc 158 #[.int .u64 x, .int .u64 y, .int .u64 c]).run Tryz.prog w = .ok (.value (.tuple #[.int .u64 s, .int .u64 k])) w := by
  rw [run_callFunc_extern Tryz.func158 (by kernel_rfl) (by kernel_rfl) (by kernel_rfl) (e := add64Entry) (by kernel_rfl), run_add64 x y c hx hy hc0 hc, hs, hk]
  simp only [Result.andThen]

/-- two words hold the sum of the first k -/
structure SumIn (zs : Nat → Int) (k : Nat) (H L : Int) : Prop where
  lo : L = sumZ zs k % 18446744073709551616
  hi : H = (sumZ zs k / 18446744073709551616) % 18446744073709551616
theorem SumIn.bd {zs : Nat → Int} {k : Nat} {H L : Int} (h : SumIn zs k H L) : 0 ≤ H ∧ H < 18446744073709551616 ∧ 0 ≤ L ∧ L < 18446744073709551616 := by
  obtain ⟨a, b⟩ := h
  omega
theorem SumIn.step {zs : Nat → Int} {k : Nat} {H L : Int} (h : SumIn zs k H L) (hz : -9223372036854775808 ≤ zs k ∧ zs k ≤ 9223372036854775807) (U l c h1 : Int) (hU : U = zs k % 18446744073709551616) (hl : (L + U + 0) % 18446744073709551616 = l) (hc : (L + U + 0) / 18446744073709551616 = c) (hh : (H + sgnW (zs k) + c) % 18446744073709551616 = h1) : SumIn zs (k + 1) h1 l := by
  obtain ⟨a, b⟩ := h
  refine ⟨?_, ?_⟩
  · simp only [sumZ]
    omega
  · simp only [sumZ]
    unfold sgnW at hh
    generalize sumZ zs k = S at *
    generalize zs k = z at *
    have hq : z / 9223372036854775808 = if z < 0 then -1 else 0 := by split <;> omega
    rw [hq] at hh
    split at hh <;> omega
theorem sumZ_bd (zs : Nat → Int) (len : Nat) (hl : len ≤ 9223372036854775807) (hz : ∀ k, k < len → -9223372036854775808 ≤ zs k ∧ zs k ≤ 9223372036854775807) : -85070591730234615865843651857942052864 ≤ sumZ zs len ∧ sumZ zs len ≤ 85070591730234615865843651857942052864 := by
  have h1 := up_dn_bd zs len hz len (Nat.le_refl _)
  have h2 := up_dn zs len
  have h3 : len * 9223372036854775808 ≤ 9223372036854775807 * 9223372036854775808 := Nat.mul_le_mul_right _ hl
  have h4 : 9223372036854775807 * 9223372036854775808 ≤ 85070591730234615865843651857942052864 := by decide
  have h5 : upN zs len ≤ 85070591730234615865843651857942052864 := Nat.le_trans h1.1 (Nat.le_trans h3 h4)
  have h6 : dnN zs len ≤ 85070591730234615865843651857942052864 := Nat.le_trans h1.2 (Nat.le_trans h3 h4)
  clear h1 h3 h4 hz
  omega
/-- the end: does the sum fit one word? -/
theorem SumIn.fits {zs : Nat → Int} {k : Nat} {H L : Int} (h : SumIn zs k H L) (hb : -85070591730234615865843651857942052864 ≤ sumZ zs k ∧ sumZ zs k ≤ 85070591730234615865843651857942052864) (hf : -9223372036854775808 ≤ sumZ zs k ∧ sumZ zs k < 9223372036854775808) : (if 9223372036854775808 ≤ L then L - 18446744073709551616 else L) = sumZ zs k ∧ H = sgnW (sumZ zs k) := by
  obtain ⟨a, b⟩ := h
  unfold sgnW
  generalize sumZ zs k = S at *
  have hq : S / 9223372036854775808 = if S < 0 then -1 else 0 := by split <;> omega
  rw [hq]
  split <;> split <;> omega
theorem SumIn.over {zs : Nat → Int} {k : Nat} {H L : Int} (h : SumIn zs k H L) (hb : -85070591730234615865843651857942052864 ≤ sumZ zs k ∧ sumZ zs k ≤ 85070591730234615865843651857942052864) (hf : ¬ (-9223372036854775808 ≤ sumZ zs k ∧ sumZ zs k < 9223372036854775808)) (s : Int) (hs : s = if 9223372036854775808 ≤ L then L - 18446744073709551616 else L) : ¬ H = sgnW s := by
  obtain ⟨a, b⟩ := h
  unfold sgnW
  generalize sumZ zs k = S at *
  have hq : s / 9223372036854775808 = if s < 0 then -1 else 0 := by rw [hs]; split <;> split <;> omega
  rw [hq]
  split at hs <;> split <;> omega

theorem wrap64_word (L : Int) (h : 0 ≤ L ∧ L < 18446744073709551616) : wrap64 L = if 9223372036854775808 ≤ L then L - 18446744073709551616 else L := by
  unfold wrap64
  split <;> omega
set_option maxHeartbeats 4000000 in
theorem msum_any (zs : Nat → Int) (b off len cap : Nat) (hl : len ≤ 9223372036854775807) (hz : ∀ k, k < len → -9223372036854775808 ≤ zs k ∧ zs k ≤ 9223372036854775807) (w : World) (hc : ∀ k, k < len → w.cell? ⟨b, off + k, none⟩ = some (.int .i64 (zs k))) :
    Calls Tryz.prog 76 #[.slice (some ⟨b, off, none⟩) len cap] w fun e w' => e = .returned (.tuple #[.int .i64 (sumSpec zs len).1, .int .i64 (sumSpec zs len).2]) ∧ w' = w := by
  have hsb := hide (sumZ_bd zs len hl hz)
  go_enter Tryz.func76, Tryz.ntmps76
  go_wp2
  go_loop [4, 5, 13] (fun hi lo i => ∃ (k : Nat) (H L : Int), k ≤ len ∧ i = .int .i64 k ∧ hi = .int .u64 H ∧ lo = .int .u64 L ∧ anyMin zs k = false ∧ SumIn zs k H L) (fun _ _ i => len - (intOf i).toNat)
  case atStart => exact ⟨0, 0, 0, by omega, rfl, rfl, rfl, rfl, by simp [sumZ], by simp [sumZ]⟩
  case round =>
    obtain ⟨k, H, L, hk, rfl, rfl, rfl, hfine, hin⟩ := hrel
    have F := hide hfine
    clear hfine
    by_cases hlt : k < len
    · have hck := hc k hlt
      have hzk := hz k hlt
      clear hc hz
      by_cases hm : zs k = -9223372036854775808
      · have hbad := hide (sumSpec_bad hlt hm)
        rw [hm] at hck
        clear hzk hm hin
        go_wp2_with (go_at_call 155; refine (chk_no _).mono ?_; rintro e w' ⟨rfl, hw⟩; subst hw)
        go_ret2
        exact ⟨by rw [unhide hbad]; rfl, rfl⟩
      · have hm' : -9223372036854775807 ≤ zs k := by omega
        have F' := hide (anyMin_step (unhide F) hm)
        have bd := hin.bd
        have sb := sgnW_bd (zs k)
        obtain ⟨l1, hl1⟩ : ∃ l1, (L + zs k % 18446744073709551616 + 0) % 18446744073709551616 = l1 := ⟨_, rfl⟩
        obtain ⟨c1, hc1⟩ : ∃ c1, (L + zs k % 18446744073709551616 + 0) / 18446744073709551616 = c1 := ⟨_, rfl⟩
        obtain ⟨h1, hh1⟩ : ∃ h1, (H + sgnW (zs k) + c1) % 18446744073709551616 = h1 := ⟨_, rfl⟩
        have hc01 : 0 ≤ c1 ∧ c1 ≤ 1 := by omega
        have R := hide (hin.step hzk _ _ _ _ rfl hl1 hc1 hh1)
        have A1 := fun w => add64_at L (zs k % 18446744073709551616) 0 l1 c1 bd.2.2.1 (by omega) (by omega) (by omega) hl1 hc1 w
        have A2 := fun w => add64_at H (sgnW (zs k)) c1 h1 _ bd.1 sb.1 hc01.1 hc01.2 hh1 rfl w
        have A1 := hide A1
        have A2 := hide A2
        by_cases h0 : 0 ≤ zs k
        · have e0 : zs k % 18446744073709551616 = zs k := by omega
          rw [e0] at A1
          clear hm hin bd sb hl1 hc1 hh1 hc01 e0 F hk
          go_wp2_with (first | simp only [unhide A1] | simp only [unhide A2] | (go_at_call 155; refine (chk_yes _ _ (by omega)).mono ?_; rintro e w' ⟨rfl, hw⟩; subst hw) | (go_at_call 159; refine (sgn_any _ _ (by omega) (by omega)).mono ?_; rintro e w' ⟨rfl, hw⟩; subst hw))
          go_round
          case rel => exact ⟨k + 1, h1, l1, by omega, by go_num, rfl, rfl, unhide F', unhide R⟩
          case measure => simp [intOf]; omega
        · have e0 : IntKind.u64.wrap (zs k) = zs k % 18446744073709551616 := uw_mod _
          rw [← e0] at A1
          clear hm hin bd sb hl1 hc1 hh1 hc01 e0 F hk
          go_wp2_with (first | simp only [unhide A1] | simp only [unhide A2] | (go_at_call 155; refine (chk_yes _ _ (by omega)).mono ?_; rintro e w' ⟨rfl, hw⟩; subst hw) | (go_at_call 159; refine (sgn_any _ _ (by omega) (by omega)).mono ?_; rintro e w' ⟨rfl, hw⟩; subst hw))
          go_round
          case rel => exact ⟨k + 1, h1, l1, by omega, by go_num, rfl, rfl, unhide F', unhide R⟩
          case measure => simp [intOf]; omega
    · have hkl : k = len := by omega
      subst hkl
      clear hc hz hk
      have bd := hin.bd
      have HIN := hide hin
      clear hin
      obtain ⟨s, hs⟩ : ∃ s, wrap64 L = s := ⟨_, rfl⟩
      have hs' : s = if 9223372036854775808 ≤ L then L - 18446744073709551616 else L := by rw [← hs]; exact wrap64_word L bd.2.2
      have sbd : -9223372036854775808 ≤ s ∧ s ≤ 9223372036854775807 := by rw [hs']; split <;> omega
      have HS' := hide hs'
      clear hs' bd
      by_cases hf : -9223372036854775808 ≤ sumZ zs k ∧ sumZ zs k < 9223372036854775808
      · have hfit := (unhide HIN).fits (unhide hsb) hf
        have es : s = sumZ zs k := (unhide HS').trans hfit.1
        have hne : (H != sgnW s) = false := by rw [bne_eq_false_iff_eq, es]; exact hfit.2
        clear hfit
        by_cases hm : sumZ zs k = -9223372036854775808
        · have hfin := hide (sumSpec_over (unhide F) (by omega))
          have em : s = -9223372036854775808 := by omega
          subst em
          clear hm es hf HS' HIN hlt
          go_wp2_with (first | (go_at_call 159; refine (sgn_any _ _ (by omega) (by omega)).mono ?_; rintro e w' ⟨rfl, hw⟩; subst hw) | (go_at_call 155; refine (chk_no _).mono ?_; rintro e w' ⟨rfl, hw⟩; subst hw))
          go_ret2
          exact ⟨by rw [unhide hfin]; rfl, rfl⟩
        · have hfin := hide (sumSpec_fits (unhide F) (by omega) hf.2)
          have em : -9223372036854775807 ≤ s := by omega
          have ES := hide es
          clear hm es hf HS' HIN hlt
          go_wp2_with (first | (go_at_call 159; refine (sgn_any _ _ (by omega) (by omega)).mono ?_; rintro e w' ⟨rfl, hw⟩; subst hw) | (go_at_call 155; refine (chk_yes _ _ (by omega)).mono ?_; rintro e w' ⟨rfl, hw⟩; subst hw))
          go_ret2
          exact ⟨by rw [unhide hfin, ← unhide ES]; rfl, rfl⟩
      · have hne : (H != sgnW s) = true := by rw [bne_iff_ne]; exact (unhide HIN).over (unhide hsb) hf s (unhide HS')
        have hfin := hide (sumSpec_over (unhide F) (by omega))
        clear hf HS' HIN hlt
        go_wp2_with (first | (go_at_call 159; refine (sgn_any _ _ (by omega) (by omega)).mono ?_; rintro e w' ⟨rfl, hw⟩; subst hw))
        go_ret2
        exact ⟨by rw [unhide hfin]; rfl, rfl⟩
end Go.Proofs.YtmgnlgobkkfjhaaGreatDoor
/- daily: money.Sum (18) of numbers that lie somewhere; with (17). -/
namespace Go.Proofs.YtmgnlgobkkfjhaaGreatDoor
open Go Go.Shelf Go.ChangeShapes Go.WideShapes Go.ChangeAt Go.RowKit Go.Maps Go.Sort
set_option linter.unusedVariables false
/-- what Sum answers of amounts -/
def sumA (l : List Int) : Int × Int := if isA (sm id l) then (sm id l, 0) else (0, 11)
theorem sumZ_list (l : List Int) : ∀ k, k ≤ l.length → sumZ (fun i => l.getD i 0) k = sm id (l.take k)
  | 0, _ => rfl
  | k + 1, h => by
    have e : l.take (k + 1) = l.take k ++ [l[k]] := List.take_succ_eq_append_getElem (by omega)
    rw [e, sm_append]
    simp only [sumZ, sm]
    rw [sumZ_list l k (by omega)]
    have : l.getD k 0 = l[k] := by simp [List.getD, List.getElem?_eq_getElem (show k < l.length by omega)]
    rw [this]
    simp
theorem anyMin_list {l : List Int} (h : ∀ x ∈ l, isA x) : ∀ k, k ≤ l.length → anyMin (fun i => l.getD i 0) k = false
  | 0, _ => rfl
  | k + 1, hk => by
    simp only [anyMin, anyMin_list h k (by omega), Bool.false_or]
    have e : l.getD k 0 = l[k] := by simp [List.getD, List.getElem?_eq_getElem (show k < l.length by omega)]
    rw [e]
    have := h l[k] (List.getElem_mem _)
    rw [beq_eq_false_iff_ne]
    omega
theorem sumSpec_list {l : List Int} (h : ∀ x ∈ l, isA x) : sumSpec (fun i => l.getD i 0) l.length = sumA l := by
  unfold sumSpec sumA
  rw [anyMin_list h _ (Nat.le_refl _), sumZ_list l _ (Nat.le_refl _), List.take_length]
  simp only [Bool.false_eq_true, if_false]
  by_cases hc : -9223372036854775807 ≤ sm id l ∧ sm id l ≤ 9223372036854775807
  · rw [if_pos (show isA (sm id l) from hc), if_pos (by omega)]
  · rw [if_neg (show ¬ isA (sm id l) from hc), if_neg (by omega)]
theorem msum_lies {w : World} {p : Option Addr} {c n : Nat} {l : List Int} (hn : l.length = n) (h : Lies kI w p l) (hne : 0 < n) (hl : n ≤ 9223372036854775807) (hA : ∀ x ∈ l, isA x) :
    Calls Tryz.prog 76 #[.slice p n c] w fun e w' => e = .returned (.tuple #[.int .i64 (sumA l).1, .int .i64 (sumA l).2]) ∧ w' = w := by
  obtain ⟨b, off, e, _, _⟩ := h.2 0 (by omega)
  subst e
  rw [← sumSpec_list hA, hn]
  refine msum_any _ b off n c hl (fun k hk => ?_) w (fun k hk => ?_)
  · have e : l.getD k 0 = l[k] := by simp [List.getD, List.getElem?_eq_getElem (show k < l.length by omega)]
    rw [e]
    have := hA l[k] (List.getElem_mem _)
    omega
  · have e : l.getD k 0 = l[k] := by simp [List.getD, List.getElem?_eq_getElem (show k < l.length by omega)]
    obtain ⟨b', off', e', _, hr⟩ := h.2 k (by omega)
    cases e'
    have := hr 0 (.int .i64 l[k]) rfl
    rw [e]
    simpa [kI] using this
def s57 (x y : Value) : Sem Unit := Instr.storeAt 98 x y
theorem s57_is (x y : Value) : Instr.storeAt 98 x y = s57 x y := rfl
theorem size57 : (Tryz.prog.info? 98).map (·.size) = some 2 := by kernel_rfl
theorem run_s57 {W : World} {q : Nat} {a b : Value} (h : W.heap[q]? = some (.cells #[a, b] 98 (0, 0))) (x : Int) (p : Option Addr) (n c : Nat) : (s57 (.pointer (some ⟨q, 0, none⟩)) (.agg #[.int .i64 x, .slice p n c])).run Tryz.prog W = .ok () (W.setCells q 0 [.int .i64 x, .slice p n c]) :=
  run_storeAt_mid (P := Tryz.prog) W q 0 98 #[.int .i64 x, .slice p n c] (fun j hj => by
    have hj2 : j < 2 := by simpa using hj
    rcases j with _ | _ | j
    · simp [World.cell?, World.frozen?, h]
    · simp [World.cell?, World.frozen?, h]
    · omega) size57 (by simp [Value.oneCell'])
theorem tot_snd (G : Td) : sm id (G.map (·.2)) = tot G := sm_map _ _ _
theorem tot_append (V G : Td) : tot (V ++ G) = tot V + tot G := sm_append _ _ _
theorem Ser.tot_take {T : Td} {S : List Mk} (h : Ser T S) (hf : fitT T) : ∀ k, k ≤ S.length → tot (tld (S.take k)) = (if k = 0 then 0 else (S.getD (k - 1) (0, 0, 0)).2.2) ∧ isA (tot (tld (S.take k)))
  | 0, _ => ⟨rfl, by show isA 0; exact ⟨by decide, by decide⟩⟩
  | k + 1, hk => by
    have e : S.take (k + 1) = S.take k ++ [S[k]] := List.take_succ_eq_append_getElem (by omega)
    have ht := h.take (k + 1)
    rw [e] at ht
    have e1 : S.getD (k + 1 - 1) (0, 0, 0) = S[k] := by simp [List.getD, show k < S.length by omega]
    obtain ⟨_, _, h3⟩ := h.is S[k] (List.getElem_mem _)
    rw [e, ht.tot_last, if_neg (by omega), e1]
    refine ⟨rfl, ?_⟩
    rw [h3]
    exact (hf _).2
/-- what holds at each round of with's loop -/
structure Wi (P : List Mk) (A A2 : Td) (b : Int) (R : List Mk) : Prop where
  cut : ∃ A1, A = A1 ++ A2 ∧ Ser (tld P ++ A1) (P ++ R) ∧ fitT (tld P ++ A1) ∧ b = tot (tld P ++ A1) ∧ ∀ x ∈ tld P ++ A1, ∀ y ∈ A2, x.1 < y.1
  up : A2.Pairwise fun a b => a.1 ≤ b.1
  isa : isA b
theorem Wi.first {T : Td} {S : List Mk} {st : Nat} {M A : Td} (hS : Ser T S) (hf : fitT T) (hst : st ≤ S.length) (hp : A.Perm (M ++ tld (S.drop st))) (hu : A.Pairwise fun a b => a.1 ≤ b.1) (hlt : ∀ m ∈ S.take st, ∀ x ∈ M, m.1 < x.1) : Wi (S.take st) A A (if st = 0 then 0 else (S.getD (st - 1) (0, 0, 0)).2.2) [] where
  cut := by
    refine ⟨[], rfl, ?_, ?_, ?_, ?_⟩
    · rw [List.append_nil, List.append_nil]; exact hS.take st
    · rw [List.append_nil]; exact hS.take_fit hf st
    · rw [List.append_nil]; exact ((hS.tot_take hf st hst).1).symm
    · intro x hx y hy
      rw [List.append_nil] at hx
      obtain ⟨m, hm, rfl⟩ := List.mem_map.1 hx
      rcases List.mem_append.1 (hp.mem_iff.1 hy) with hy | hy
      · exact hlt m hm y hy
      · obtain ⟨m2, hm2, rfl⟩ := List.mem_map.1 hy
        have := hS.up
        rw [← List.take_append_drop st S, List.pairwise_append] at this
        exact this.2.2 m hm m2 hm2
  up := hu
  isa := by rw [← (hS.tot_take hf st hst).1]; exact (hS.tot_take hf st hst).2
theorem Wi.rest_lt {P : List Mk} {A A2 : Td} {b : Int} {R : List Mk} (h : Wi P A A2 b R) {k : Nat} {d : Int} (hk : 1 ≤ k) (hG : ∀ x ∈ A2.take k, x.1 = d) (hR : ∀ x, (A2.drop k).head? = some x → x.1 ≠ d) (hne : A2 ≠ []) : ∀ y ∈ A2.drop k, d < y.1 := fun y hy => by
  have hu := h.up
  rw [← List.take_append_drop k A2, List.pairwise_append] at hu
  have hd : ∃ x ∈ A2.take k, x.1 = d := by
    cases A2 with
    | nil => exact absurd rfl hne
    | cons a L =>
      refine ⟨a, ?_, hG a ?_⟩ <;> (cases k with | zero => omega | succ k => simp)
  obtain ⟨x, hx, hxd⟩ := hd
  cases hq : A2.drop k with
  | nil => rw [hq] at hy; cases hy
  | cons z L =>
    have hz := hR z (by rw [hq]; rfl)
    have h1 := hu.2.2 x hx z (by rw [hq]; exact List.mem_cons_self)
    have h2 := hu.2.1
    rw [hq, List.pairwise_cons] at h2
    rw [hq] at hy
    rcases List.mem_cons.1 hy with e | hy
    · subst e; omega
    · have := h2.1 y hy; omega
theorem Wi.step {P : List Mk} {A A2 : Td} {b : Int} {R : List Mk} (h : Wi P A A2 b R) {k : Nat} {d : Int} (hk : 1 ≤ k) (hG : ∀ x ∈ A2.take k, x.1 = d) (hR : ∀ x, (A2.drop k).head? = some x → x.1 ≠ d) (hne : A2 ≠ []) (h1 : isA (tot (A2.take k))) (h2 : isA (b + tot (A2.take k))) :
    Wi P A (A2.drop k) (b + tot (A2.take k)) (if tot (A2.take k) = 0 then R else R ++ [(d, tot (A2.take k), b + tot (A2.take k))]) where
  cut := by
    obtain ⟨A1, e, hs, hf, hb, hl⟩ := h.cut
    have hmem : ∀ x ∈ A2.take k, x ∈ A2 := fun x hx => List.mem_of_mem_take hx
    have hd : ∃ x ∈ A2, x.1 = d := by
      cases A2 with
      | nil => exact absurd rfl hne
      | cons a L =>
        refine ⟨a, List.mem_cons_self, hG a ?_⟩
        cases k with
        | zero => omega
        | succ k => simp
    have hV : ∀ r ∈ tld P ++ A1, r.1 < d := fun r hr => by
      obtain ⟨x, hx, hxd⟩ := hd
      rw [← hxd]
      exact hl r hr x hx
    refine ⟨A1 ++ A2.take k, ?_, ?_, ?_, ?_, ?_⟩
    · rw [List.append_assoc, List.take_append_drop]; exact e
    · rw [← List.append_assoc]
      have := step_ser hV hG hs
      rw [← hb] at this
      split
      · next hz => rw [if_pos hz] at this; exact this
      · next hz => rw [if_neg hz] at this; rw [← List.append_assoc P R]; exact this
    · rw [← List.append_assoc]
      exact step_fit hV hG hf h1 (by rw [← hb]; exact h2)
    · rw [← List.append_assoc, tot_append, hb]
    · intro x hx y hy
      have hdy := h.rest_lt hk hG hR hne y hy
      rw [← List.append_assoc] at hx
      rcases List.mem_append.1 hx with hx | hx
      · have := hV x hx; omega
      · rw [hG x hx]; exact hdy
  up := (h.up).sublist (List.drop_sublist _ _)
  isa := h2
theorem Wi.bad {P : List Mk} {A A2 : Td} {b : Int} {R : List Mk} (h : Wi P A A2 b R) {k : Nat} {d : Int} (hk : 1 ≤ k) (hG : ∀ x ∈ A2.take k, x.1 = d) (hR : ∀ x, (A2.drop k).head? = some x → x.1 ≠ d) (hne : A2 ≠ []) (hb : ¬ (isA (tot (A2.take k)) ∧ isA (b + tot (A2.take k)))) : ¬ fitT (tld P ++ A) := by
  obtain ⟨A1, e, hs, hf, hb1, hl⟩ := h.cut
  have hd : ∃ x ∈ A2, x.1 = d := by
    cases A2 with
    | nil => exact absurd rfl hne
    | cons a L =>
      refine ⟨a, List.mem_cons_self, hG a ?_⟩
      cases k with
      | zero => omega
      | succ k => simp
  have hV : ∀ r ∈ tld P ++ A1, r.1 < d := fun r hr => by
    obtain ⟨x, hx, hxd⟩ := hd
    rw [← hxd]
    exact hl r hr x hx
  have e2 : tld P ++ A = tld P ++ A1 ++ A2.take k ++ A2.drop k := by rw [List.append_assoc (tld P ++ A1), List.take_append_drop, List.append_assoc, e]
  rw [e2]
  exact step_bad hV hG (h.rest_lt hk hG hR hne) (by rw [← hb1]; exact hb)
end Go.Proofs.YtmgnlgobkkfjhaaGreatDoor
