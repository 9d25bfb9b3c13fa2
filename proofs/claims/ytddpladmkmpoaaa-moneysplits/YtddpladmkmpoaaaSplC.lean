import Derived.Test.YtddpladmkmpoaaaSplB
namespace Go.Proofs.Ytddpladmkmpoaaa
open Go.ChangeShapes Go.WideShapes Go.ChangeAt Go.RowKit Go.Sort Go.Lib Go.Shelf
set_option linter.unusedVariables false
attribute [local go_sem ↓] ld50_is st50_is
def sumN (zs : Nat → Int) : Nat → Nat
  | 0 => 0
  | k + 1 => sumN zs k + (zs k).toNat
theorem sumN_is {zs : Nat → Int} : ∀ n, (∀ k, k < n → 0 ≤ zs k) → (sumN zs n : Int) = sumZ zs n
  | 0, _ => rfl
  | n + 1, h => by
    have ih := sumN_is n (fun k hk => h k (by omega))
    have := h n (by omega)
    simp only [sumN, sumZ]
    omega
theorem sumN_le (zs : Nat → Int) {k n : Nat} (h : k ≤ n) : sumN zs k ≤ sumN zs n := by
  induction n with
  | zero => have : k = 0 := by omega
            subst this; exact Nat.le_refl _
  | succ n ih =>
    by_cases e : k = n + 1
    · subst e; exact Nat.le_refl _
    · have := ih (by omega)
      simp only [sumN]
      omega
theorem one_le_sum (zs : Nat → Int) {k n : Nat} (h : k < n) : (zs k).toNat ≤ sumN zs n := by
  have := sumN_le zs (show k + 1 ≤ n from h)
  simp only [sumN] at this
  omega
/-- a share, rounded down, and its rest -/
def qf (T S : Nat) (zs : Nat → Int) (i : Nat) : Nat := T * (zs i).toNat / S
def rf (T S : Nat) (zs : Nat → Int) (i : Nat) : Nat := T * (zs i).toNat % S
def cumQ (T S : Nat) (zs : Nat → Int) : Nat → Nat
  | 0 => 0
  | k + 1 => cumQ T S zs k + qf T S zs k
theorem cumQ_le (T S : Nat) (zs : Nat → Int) : ∀ k, cumQ T S zs k * S ≤ T * sumN zs k
  | 0 => by simp [cumQ, sumN]
  | k + 1 => by
    have ih := cumQ_le T S zs k
    have h := Nat.div_mul_le_self (T * (zs k).toNat) S
    simp only [cumQ, sumN, Nat.add_mul, Nat.mul_add]
    unfold qf
    omega
theorem cumQ_T {T S : Nat} {zs : Nat → Int} {n k : Nat} (hS : sumN zs n = S) (h0 : 0 < S) (hk : k ≤ n) : cumQ T S zs k ≤ T := by
  have h := cumQ_le T S zs k
  have h2 : T * sumN zs k ≤ T * S := by rw [← hS]; exact Nat.mul_le_mul_left _ (sumN_le zs hk)
  exact Nat.le_of_mul_le_mul_right (Nat.le_trans h h2) h0
theorem qf_T {T S : Nat} {zs : Nat → Int} {n k : Nat} (hS : sumN zs n = S) (h0 : 0 < S) (hk : k < n) : qf T S zs k ≤ T := by
  have := cumQ_T (T := T) (k := k + 1) hS h0 hk
  simp only [cumQ] at this
  omega
def shf (T S : Nat) (zs : Nat → Int) (i : Nat) : Sh := ⟨i, qf T S zs i, rf T S zs i⟩
theorem div_cut (P : Nat) : (P / 18446744073709551616 * 18446744073709551616 + P % 18446744073709551616) = P := by
  have := Nat.div_add_mod P 18446744073709551616
  omega
theorem hi_lt {T S z : Nat} (hT : T ≤ 9223372036854775807) (hz : z ≤ S) (h0 : 0 < S) : T * z / 18446744073709551616 < S := by
  have h1 : T * z ≤ T * S := Nat.mul_le_mul_left _ hz
  have h2 : T * S < 18446744073709551616 * S := Nat.mul_lt_mul_of_pos_right (by omega) h0
  exact Nat.div_lt_of_lt_mul (by omega)
theorem sw_other {w0 W : World} {blk : Nat} {dk : Array Sh} (h : SWK enc3 3 w0 blk 0 dk W) {b o : Nat} (hb : b < w0.heap.size) (hne : b ≠ blk) : W.cell? ⟨b, o, none⟩ = w0.cell? ⟨b, o, none⟩ := by
  obtain ⟨n, os, rfl⟩ := h
  unfold sortWorldK
  rw [cell?_grow _ _ _ (by rw [size_putRowK]; exact hb), cell?_putRowK_other _ _ _ _ _ _ _ hne]
  rfl
theorem mkW_other (w : World) (n : Nat) {b o : Nat} (hb : b < w.heap.size) : (mkW w n).cell? ⟨b, o, none⟩ = w.cell? ⟨b, o, none⟩ := by
  unfold mkW
  exact World.cell?_alloc_lt _ _ _ hb
set_option maxHeartbeats 4000000 in
set_option maxRecDepth 1000000 in
/-- floorShares at any list -/
theorem floor_any (T S : Nat) (zs : Nat → Int) (b off n cap : Nat) (hT : T ≤ 9223372036854775807) (hS : sumN zs n = S) (h0 : 0 < S) (hS63 : S ≤ 9223372036854775807) (hn : n ≤ 1000) (hz : Hid (∀ k, k < n → 0 ≤ zs k ∧ zs k ≤ 9223372036854775807)) (w : World) (hb : b < w.heap.size) (hc : Hid (∀ k, k < n → w.cell? ⟨b, off + k, none⟩ = some (.int .i64 (zs k)))) :
    Calls Try.prog 45 #[.int .u64 T, .slice (some ⟨b, off, none⟩) n cap, .int .i64 S] w fun e w' => e = .returned (.tuple #[.slice (some ⟨w.heap.size, 0, none⟩) n n, .int .u64 ((T - cumQ T S zs n : Nat) : Int)]) ∧ SWK enc3 3 (mkW w n) w.heap.size 0 (mkA n n (shf T S zs)) w' := by
  have MK := run_mk n hn
  have R : Aside (RowK enc3 3 (mkW w n) w.heap.size 0 (mkA n 0 (shf T S zs))) := rowK (mkW_holds w n _) (by rw [mkW_size]; omega)
  have S0 : Aside (SWK enc3 3 (mkW w n) w.heap.size 0 (mkA n 0 (shf T S zs)) (mkW w n)) := SWK.start (mkW_holds w n _)
  have mixed : Try.prog.follows .mixedOrders = true := by kernel_rfl
  go_enter Try.func45, Try.ntmps45
  go_wp2_with fail
  go_loopg [9, 22] n (fun kx sl si wr => ∃ (k : Nat), sl = .int .u64 ((T - cumQ T S zs k : Nat) : Int) ∧ si = .int .i64 (k : Int) ∧ k ≤ n ∧ n - k ≤ kx ∧ Aside (SWK enc3 3 (mkW w n) w.heap.size 0 (mkA n k (shf T S zs)) wr))
  case atStart => exact ⟨0, by simp [cumQ], rfl, by omega, by omega, S0⟩
  case round =>
    clear S0
    obtain ⟨k, rfl, rfl, hkn, hkx, S1⟩ := hrel
    by_cases hlt : k < n
    · have hI : (k : Int) < (n : Int) := by omega
      have hck : wr.cell? ⟨b, off + k, none⟩ = some (.int .i64 (zs k)) := by
        rw [sw_other S1.out (by rw [mkW_size]; omega) (by omega), mkW_other w n hb]
        exact unhide hc k hlt
      have hzk := unhide hz k hlt
      obtain ⟨z, hz'⟩ : ∃ z : Nat, zs k = (z : Int) := ⟨(zs k).toNat, by omega⟩
      have ez : (zs k).toNat = z := by omega
      have hzS : z ≤ S := by rw [← ez, ← hS]; exact one_le_sum zs hlt
      rw [hz'] at hck
      obtain ⟨q, hq⟩ : ∃ q, qf T S zs k = q := ⟨_, rfl⟩
      obtain ⟨r, hr⟩ : ∃ r, rf T S zs k = r := ⟨_, rfl⟩
      obtain ⟨l, hl⟩ : ∃ l, T - cumQ T S zs k = l := ⟨_, rfl⟩
      have hq2 : T * z / S = q := by rw [← ez]; exact hq
      have hr2 : T * z % S = r := by rw [← ez]; exact hr
      have hql : q ≤ l := by
        have := cumQ_T (T := T) (k := k + 1) hS h0 hlt
        simp only [cumQ] at this
        omega
      have hqT : q ≤ T := by omega
      have EN : Aside (T - cumQ T S zs (k + 1) = l - q) := (by simp only [cumQ]; omega : T - cumQ T S zs (k + 1) = l - q)
      obtain ⟨hi, ehi⟩ : ∃ hi, T * z / 18446744073709551616 = hi := ⟨_, rfl⟩
      obtain ⟨lo, elo⟩ : ∃ lo, T * z % 18446744073709551616 = lo := ⟨_, rfl⟩
      have hlo : lo < 18446744073709551616 := by rw [← elo]; exact Nat.mod_lt _ (by decide)
      have hhi : hi < S := by rw [← ehi]; exact hi_lt hT hzS h0
      have hcut : hi * 18446744073709551616 + lo = T * z := by rw [← ehi, ← elo]; exact div_cut _
      have C1 := hide (fun W => mul64_any T z hi lo (by omega) (by omega) ehi elo W)
      have C2 := hide (fun W => div64_any hi lo S q r W hlo (by omega) hhi (by rw [hcut]; exact hq2) (by rw [hcut]; exact hr2))
      have SHF : Aside (shf T S zs k = ⟨k, q, r⟩) := (by unfold shf; rw [hq, hr] : shf T S zs k = ⟨k, q, r⟩)
      have ST : Aside (∀ m, (st50 (.pointer (some ⟨w.heap.size, k * 3, none⟩)) (.agg #[.int .i64 (k : Int), .int .i64 (q : Int), .int .u64 (r : Int)])).run Try.prog (wr.drewN m) = .ok () ((wr.drewN m).setCells w.heap.size (k * 3) (enc3 ⟨k, q, r⟩))) := fun m => sw_st1 (S1.out.drewN m) R.out (by rw [mkA_size, mkA_size]) (by rw [mkA_size]; exact hlt) ⟨k, q, r⟩
      have SN : Aside (∀ m, SWK enc3 3 (mkW w n) w.heap.size 0 (mkA n (k + 1) (shf T S zs)) ((wr.drewN m).setCells w.heap.size (k * 3) (enc3 ⟨k, q, r⟩))) := fun m => by
        have h := sw_set (S1.out.drewN m) (by rw [mkW_size]; omega) (x := k) (by rw [mkA_size]; exact hlt) (shf T S zs k)
        rw [mkA_set _ hlt, SHF.out] at h
        exact h
      rw [hl]
      have hzz : (z : Int) ≤ 9223372036854775807 := by omega
      have hl63 : l ≤ 9223372036854775807 := by omega
      clear hq hr hl hq2 hr2 ehi elo hcut hhi hzk hz' ez S1 SHF
      go_wp2_with fail
      refine (unhide C1 _).mono ?_
      rintro e w0 ⟨rfl, hw⟩
      rw [hw]
      clear hw w0
      go_wp2_with fail
      refine (unhide C2 _).mono ?_
      rintro e w0 ⟨rfl, nn, hw⟩
      rw [hw]
      clear hw w0
      have st := ST.out nn
      have sn : Aside _ := SN.out nn
      have px : (0 : Int) ≤ (k : Int) := by omega
      go_wp2
      go_roundg (n - (k + 1))
      case measure => omega
      case rel =>
        refine ⟨k + 1, ?_, by go_num, by omega, Nat.le_refl _, sn⟩
        rw [EN.out, show ((l - q : Nat) : Int) = (l : Int) - (q : Int) by omega]
    · have hkn' : k = n := by omega
      subst hkn'
      have hI : ¬ (k : Int) < (k : Int) := by omega
      go_wp2
      go_ret2
      exact ⟨rfl, S1.out⟩
end Go.Proofs.Ytddpladmkmpoaaa
