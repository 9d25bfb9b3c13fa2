/- money: Check (19), Sum (30). -/
import Derived.Test.YtcafhmlpmbkhkaaGreatDoorMnyN
import Derived.Test.YtcafhmlpmbkhkaaGreatDoorRowT
import Derived.Laws.Externs
namespace Go.Proofs.YtcafhmlpmbkhkaaGreatDoor
open Go.ChangeShapes Go.WideShapes Go.ChangeAt Go.RowKit
set_option linter.unusedVariables false

set_option maxHeartbeats 1000000 in
theorem chk_yes (a : Int) (w : World) (h : -9223372036854775807 ≤ a) : Calls Tryz.prog 164 #[.int .i64 a] w fun e w' => e = .returned (.int .i64 0) ∧ w' = w := by
  have hb : (a == -9223372036854775808) = false := by rw [beq_eq_false_iff_ne]; omega
  clear h
  go_enter Tryz.func164, Tryz.ntmps164
  go_wp2
  go_ret
  exact ⟨rfl, rfl⟩
set_option maxHeartbeats 1000000 in
theorem chk_no (w : World) : Calls Tryz.prog 164 #[.int .i64 (-9223372036854775808)] w fun e w' => e = .returned (.int .i64 10) ∧ w' = w := by
  go_enter Tryz.func164, Tryz.ntmps164
  go_wp2
  go_ret
  exact ⟨rfl, rfl⟩
/-- the word above -/
def sgnW (a : Int) : Int := (a / 9223372036854775808) % 18446744073709551616
theorem uw_mod (a : Int) : IntKind.u64.wrap a = a % 18446744073709551616 := by
  simp only [IntKind.wrap, IntKind.bits, IntKind.signed, Bool.false_and, Bool.false_eq_true, if_false]
  omega
theorem sgnW_bd (a : Int) : 0 ≤ sgnW a ∧ sgnW a < 18446744073709551616 := by unfold sgnW; omega
set_option maxHeartbeats 1000000 in
theorem sgn_any (a : Int) (w : World) (h : -9223372036854775808 ≤ a) (h' : a ≤ 9223372036854775807) : Calls Tryz.prog 166 #[.int .i64 a] w fun e w' => e = .returned (.int .u64 (sgnW a)) ∧ w' = w := by
  have e := hide (uw_mod (a / 9223372036854775808))
  go_enter Tryz.func166, Tryz.ntmps166
  go_wp2
  go_ret
  exact ⟨by rw [show sgnW a = IntKind.u64.wrap (a / 9223372036854775808) from (unhide e).symm]; rfl, rfl⟩

theorem add64_at (x y c s k : Int) (hx : 0 ≤ x) (hy : 0 ≤ y) (hc0 : 0 ≤ c) (hc : c ≤ 1) (hs : (x + y + c) % 18446744073709551616 = s) (hk : (x + y + c) / 18446744073709551616 = k) (w : World) :
    (callFunc 165 #[.int .u64 x, .int .u64 y, .int .u64 c]).run Tryz.prog w = .ok (.value (.tuple #[.int .u64 s, .int .u64 k])) w := by
  rw [run_callFunc_extern Tryz.func165 (by kernel_rfl) (by kernel_rfl) (by kernel_rfl) (e := add64Entry) (by kernel_rfl), run_add64 x y c hx hy hc0 hc, hs, hk]
  simp only [Result.andThen]

/-- two words hold the sum of the first k -/
structure SumIn (zs : Nat → Int) (k : Nat) (H L : Int) : Prop where
  lo : L = sumZ zs k % 18446744073709551616
  hi : H = (sumZ zs k / 18446744073709551616) % 18446744073709551616
theorem SumIn.bd {zs : Nat → Int} {k : Nat} {H L : Int} (h : SumIn zs k H L) : 0 ≤ H ∧ H < 18446744073709551616 ∧ 0 ≤ L ∧ L < 18446744073709551616 := by
  obtain ⟨a, b⟩ := h
  omega
theorem SumIn.step {zs : Nat → Int} {k : Nat} {H L : Int} (h : SumIn zs k H L) (hz : -9223372036854775808 ≤ zs k ∧ zs k ≤ 9223372036854775807) (U l c h1 : Int) (hU : U = zs k % 18446744073709551616) (hl : (L + U + 0) % 18446744073709551616 = l) (hc : (L + U + 0) / 18446744073709551616 = c) (hh : (H + sgnW (zs k) + c) % 18446744073709551616 = h1) : SumIn zs (k + 1) h1 l := by
  obtain ⟨a, b⟩ := h
  refine ⟨?_, ?_⟩
  · simp only [sumZ]
    omega
  · simp only [sumZ]
    unfold sgnW at hh
    generalize sumZ zs k = S at *
    generalize zs k = z at *
    have hq : z / 9223372036854775808 = if z < 0 then -1 else 0 := by split <;> omega
    rw [hq] at hh
    split at hh <;> omega
theorem sumZ_bd (zs : Nat → Int) (len : Nat) (hl : len ≤ 9223372036854775807) (hz : ∀ k, k < len → -9223372036854775808 ≤ zs k ∧ zs k ≤ 9223372036854775807) : -85070591730234615865843651857942052864 ≤ sumZ zs len ∧ sumZ zs len ≤ 85070591730234615865843651857942052864 := by
  have h1 := up_dn_bd zs len hz len (Nat.le_refl _)
  have h2 := up_dn zs len
  have h3 : len * 9223372036854775808 ≤ 9223372036854775807 * 9223372036854775808 := Nat.mul_le_mul_right _ hl
  have h4 : 9223372036854775807 * 9223372036854775808 ≤ 85070591730234615865843651857942052864 := by decide
  have h5 : upN zs len ≤ 85070591730234615865843651857942052864 := Nat.le_trans h1.1 (Nat.le_trans h3 h4)
  have h6 : dnN zs len ≤ 85070591730234615865843651857942052864 := Nat.le_trans h1.2 (Nat.le_trans h3 h4)
  clear h1 h3 h4 hz
  omega
/-- the end: does the sum fit one word? -/
theorem SumIn.fits {zs : Nat → Int} {k : Nat} {H L : Int} (h : SumIn zs k H L) (hb : -85070591730234615865843651857942052864 ≤ sumZ zs k ∧ sumZ zs k ≤ 85070591730234615865843651857942052864) (hf : -9223372036854775808 ≤ sumZ zs k ∧ sumZ zs k < 9223372036854775808) : (if 9223372036854775808 ≤ L then L - 18446744073709551616 else L) = sumZ zs k ∧ H = sgnW (sumZ zs k) := by
  obtain ⟨a, b⟩ := h
  unfold sgnW
  generalize sumZ zs k = S at *
  have hq : S / 9223372036854775808 = if S < 0 then -1 else 0 := by split <;> omega
  rw [hq]
  split <;> split <;> omega
theorem SumIn.over {zs : Nat → Int} {k : Nat} {H L : Int} (h : SumIn zs k H L) (hb : -85070591730234615865843651857942052864 ≤ sumZ zs k ∧ sumZ zs k ≤ 85070591730234615865843651857942052864) (hf : ¬ (-9223372036854775808 ≤ sumZ zs k ∧ sumZ zs k < 9223372036854775808)) (s : Int) (hs : s = if 9223372036854775808 ≤ L then L - 18446744073709551616 else L) : ¬ H = sgnW s := by
  obtain ⟨a, b⟩ := h
  unfold sgnW
  generalize sumZ zs k = S at *
  have hq : s / 9223372036854775808 = if s < 0 then -1 else 0 := by rw [hs]; split <;> split <;> omega
  rw [hq]
  split at hs <;> split <;> omega

theorem wrap64_word (L : Int) (h : 0 ≤ L ∧ L < 18446744073709551616) : wrap64 L = if 9223372036854775808 ≤ L then L - 18446744073709551616 else L := by
  unfold wrap64
  split <;> omega
set_option maxHeartbeats 4000000 in
theorem msum_any (zs : Nat → Int) (b off len cap : Nat) (hl : len ≤ 9223372036854775807) (hz : ∀ k, k < len → -9223372036854775808 ≤ zs k ∧ zs k ≤ 9223372036854775807) (w : World) (hc : ∀ k, k < len → w.cell? ⟨b, off + k, none⟩ = some (.int .i64 (zs k))) :
    Calls Tryz.prog 83 #[.slice (some ⟨b, off, none⟩) len cap] w fun e w' => e = .returned (.tuple #[.int .i64 (sumSpec zs len).1, .int .i64 (sumSpec zs len).2]) ∧ w' = w := by
  have hsb := hide (sumZ_bd zs len hl hz)
  go_enter Tryz.func83, Tryz.ntmps83
  go_wp2
  go_loop [4, 5, 13] (fun hi lo i => ∃ (k : Nat) (H L : Int), k ≤ len ∧ i = .int .i64 k ∧ hi = .int .u64 H ∧ lo = .int .u64 L ∧ anyMin zs k = false ∧ SumIn zs k H L) (fun _ _ i => len - (intOf i).toNat)
  case atStart => exact ⟨0, 0, 0, by omega, rfl, rfl, rfl, rfl, by simp [sumZ], by simp [sumZ]⟩
  case round =>
    obtain ⟨k, H, L, hk, rfl, rfl, rfl, hfine, hin⟩ := hrel
    have F := hide hfine
    clear hfine
    by_cases hlt : k < len
    · have hck := hc k hlt
      have hzk := hz k hlt
      clear hc hz
      by_cases hm : zs k = -9223372036854775808
      · have hbad := hide (sumSpec_bad hlt hm)
        rw [hm] at hck
        clear hzk hm hin
        go_wp2_with (go_at_call 164; refine (chk_no _).mono ?_; rintro e w' ⟨rfl, hw⟩; subst hw)
        go_ret2
        exact ⟨by rw [unhide hbad]; rfl, rfl⟩
      · have hm' : -9223372036854775807 ≤ zs k := by omega
        have F' := hide (anyMin_step (unhide F) hm)
        have bd := hin.bd
        have sb := sgnW_bd (zs k)
        obtain ⟨l1, hl1⟩ : ∃ l1, (L + zs k % 18446744073709551616 + 0) % 18446744073709551616 = l1 := ⟨_, rfl⟩
        obtain ⟨c1, hc1⟩ : ∃ c1, (L + zs k % 18446744073709551616 + 0) / 18446744073709551616 = c1 := ⟨_, rfl⟩
        obtain ⟨h1, hh1⟩ : ∃ h1, (H + sgnW (zs k) + c1) % 18446744073709551616 = h1 := ⟨_, rfl⟩
        have hc01 : 0 ≤ c1 ∧ c1 ≤ 1 := by omega
        have R := hide (hin.step hzk _ _ _ _ rfl hl1 hc1 hh1)
        have A1 := fun w => add64_at L (zs k % 18446744073709551616) 0 l1 c1 bd.2.2.1 (by omega) (by omega) (by omega) hl1 hc1 w
        have A2 := fun w => add64_at H (sgnW (zs k)) c1 h1 _ bd.1 sb.1 hc01.1 hc01.2 hh1 rfl w
        have A1 := hide A1
        have A2 := hide A2
        by_cases h0 : 0 ≤ zs k
        · have e0 : zs k % 18446744073709551616 = zs k := by omega
          rw [e0] at A1
          clear hm hin bd sb hl1 hc1 hh1 hc01 e0 F hk
          go_wp2_with (first | simp only [unhide A1] | simp only [unhide A2] | (go_at_call 164; refine (chk_yes _ _ (by omega)).mono ?_; rintro e w' ⟨rfl, hw⟩; subst hw) | (go_at_call 166; refine (sgn_any _ _ (by omega) (by omega)).mono ?_; rintro e w' ⟨rfl, hw⟩; subst hw))
          go_round
          case rel => exact ⟨k + 1, h1, l1, by omega, by go_num, rfl, rfl, unhide F', unhide R⟩
          case measure => simp [intOf]; omega
        · have e0 : IntKind.u64.wrap (zs k) = zs k % 18446744073709551616 := uw_mod _
          rw [← e0] at A1
          clear hm hin bd sb hl1 hc1 hh1 hc01 e0 F hk
          go_wp2_with (first | simp only [unhide A1] | simp only [unhide A2] | (go_at_call 164; refine (chk_yes _ _ (by omega)).mono ?_; rintro e w' ⟨rfl, hw⟩; subst hw) | (go_at_call 166; refine (sgn_any _ _ (by omega) (by omega)).mono ?_; rintro e w' ⟨rfl, hw⟩; subst hw))
          go_round
          case rel => exact ⟨k + 1, h1, l1, by omega, by go_num, rfl, rfl, unhide F', unhide R⟩
          case measure => simp [intOf]; omega
    · have hkl : k = len := by omega
      subst hkl
      clear hc hz hk
      have bd := hin.bd
      have HIN := hide hin
      clear hin
      obtain ⟨s, hs⟩ : ∃ s, wrap64 L = s := ⟨_, rfl⟩
      have hs' : s = if 9223372036854775808 ≤ L then L - 18446744073709551616 else L := by rw [← hs]; exact wrap64_word L bd.2.2
      have sbd : -9223372036854775808 ≤ s ∧ s ≤ 9223372036854775807 := by rw [hs']; split <;> omega
      have HS' := hide hs'
      clear hs' bd
      by_cases hf : -9223372036854775808 ≤ sumZ zs k ∧ sumZ zs k < 9223372036854775808
      · have hfit := (unhide HIN).fits (unhide hsb) hf
        have es : s = sumZ zs k := (unhide HS').trans hfit.1
        have hne : (H != sgnW s) = false := by rw [bne_eq_false_iff_eq, es]; exact hfit.2
        clear hfit
        by_cases hm : sumZ zs k = -9223372036854775808
        · have hfin := hide (sumSpec_over (unhide F) (by omega))
          have em : s = -9223372036854775808 := by omega
          subst em
          clear hm es hf HS' HIN hlt
          go_wp2_with (first | (go_at_call 166; refine (sgn_any _ _ (by omega) (by omega)).mono ?_; rintro e w' ⟨rfl, hw⟩; subst hw) | (go_at_call 164; refine (chk_no _).mono ?_; rintro e w' ⟨rfl, hw⟩; subst hw))
          go_ret2
          exact ⟨by rw [unhide hfin]; rfl, rfl⟩
        · have hfin := hide (sumSpec_fits (unhide F) (by omega) hf.2)
          have em : -9223372036854775807 ≤ s := by omega
          have ES := hide es
          clear hm es hf HS' HIN hlt
          go_wp2_with (first | (go_at_call 166; refine (sgn_any _ _ (by omega) (by omega)).mono ?_; rintro e w' ⟨rfl, hw⟩; subst hw) | (go_at_call 164; refine (chk_yes _ _ (by omega)).mono ?_; rintro e w' ⟨rfl, hw⟩; subst hw))
          go_ret2
          exact ⟨by rw [unhide hfin, ← unhide ES]; rfl, rfl⟩
      · have hne : (H != sgnW s) = true := by rw [bne_iff_ne]; exact (unhide HIN).over (unhide hsb) hf s (unhide HS')
        have hfin := hide (sumSpec_over (unhide F) (by omega))
        clear hf HS' HIN hlt
        go_wp2_with (first | (go_at_call 166; refine (sgn_any _ _ (by omega) (by omega)).mono ?_; rintro e w' ⟨rfl, hw⟩; subst hw))
        go_ret2
        exact ⟨by rw [unhide hfin]; rfl, rfl⟩
end Go.Proofs.YtcafhmlpmbkhkaaGreatDoor
