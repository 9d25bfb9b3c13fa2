import Derived.Test.YtddpladmkmpoaaaStbA
import Derived.Test.YtddpladmkmpoaaaStbP
namespace Go.Proofs.Ytddpladmkmpoaaa
open Go.ChangeShapes Go.WideShapes Go.ChangeAt Go.RowKit Go.Sort Go.Lib Go.Shelf
set_option linter.unusedVariables false
attribute [local go_sem ↓] ld50_is st50_is
section
variable {w0 W : World} {blk : Nat} {d0 dk : Array Sh}
theorem sw_lds (h : SWK enc3 3 w0 blk 0 dk W) (R : RowK enc3 3 w0 blk 0 d0) (hs : dk.size = d0.size) {x : Nat} (hx : x < dk.size) : ∀ n os, (ld50 (.pointer (some ⟨blk, x * 3, none⟩))).run Try.prog (grow (W.drewN n) os) = .ok (.agg (enc3 dk[x]!).toArray) (grow (W.drewN n) os) := fun n os => sw_ld (h.grown n os) R hs hx
theorem sw_cmp (x y : Sh) : ∀ n os, Calls Try.prog 47 #[.agg (enc3 x).toArray, .agg (enc3 y).toArray] (grow (W.drewN n) os) fun e w' => e = .returned (.int .i64 (cfS x y)) ∧ ∃ q os', w' = grow ((grow (W.drewN n) os).drewN q) os' := fun n os => cloS x y _
end
set_option maxHeartbeats 4000000 in
set_option maxRecDepth 1000000 in
/-- slices.symMergeCmpFunc where the left run is of one -/
theorem merge_one (blk cap a m b : Nat) (d0 d : Array Sh) (w0 w : World) (R : RowK enc3 3 w0 blk 0 d0) (hs : d0.size = d.size) (S : SWK enc3 3 w0 blk 0 d w) (ham : (m : Int) - (a : Int) = 1) (hmb : m < b) (hb : b ≤ d.size) (hsz : d.size ≤ 1000)
    (h2 : Srt d m b) (hc : Crs d a m b) :
    Calls Try.prog 61 #[.slice (some ⟨blk, 0, none⟩) d.size cap, .int .i64 a, .int .i64 m, .int .i64 b, .func (.func 47) #[] #[]] w fun e w' => e = .returned (.tuple #[]) ∧ ∃ c : Array Sh, SWK enc3 3 w0 blk 0 c w' ∧ PermIn a b d c ∧ Srt c a b := by
  have S0 : Aside (SWK enc3 3 w0 blk 0 d w) := S
  have mixed : Try.prog.follows .mixedOrders = true := by kernel_rfl
  have H2 : Aside (Srt d m b) := h2
  have HC : Aside (Crs d a m b) := hc
  clear S h2 hc
  go_enter Try.func61, Try.ntmps61
  go_wp2
  go_loopg [10, 11, 12] (b - m) (fun kx si sj sh wr => ∃ (i j : Nat), si = .int .i64 i ∧ sj = .int .i64 j ∧ j - i ≤ kx ∧ Fst d a m b i j ∧ Aside (SWK enc3 3 w0 blk 0 d wr))
  case atStart => exact ⟨m, b, rfl, rfl, by omega, ⟨by omega, by omega, by omega, fun x h1 h2 => by omega, fun x h1 h2 => by omega⟩, S0⟩
  case round =>
    clear S0
    obtain ⟨i, j, rfl, rfl, hkx, F, S1⟩ := hrel
    have f1 := F.mi; have f2 := F.ij; have f3 := F.jb
    have FF : Aside _ := F
    clear F
    by_cases hlt : i < j
    · have hI : (i : Int) < (j : Int) := by omega
      obtain ⟨h, hh⟩ : ∃ h : Nat, ((i : Int) + (j : Int)) / 2 = (h : Int) := ⟨(i + j) / 2, by omega⟩
      have hb1 : i ≤ h ∧ h < j := by omega
      have xs : h < d.size := by omega
      have yz : a < d.size := by omega
      have px : (0 : Int) ≤ (h : Int) := by omega
      have bx : (h : Int) < (d.size : Int) := by omega
      have py : (0 : Int) ≤ (a : Int) := by omega
      have bY : (a : Int) < (d.size : Int) := by omega
      have rx : IntKind.i64.wrap (h : Int) = (h : Int) := by rw [IntKind.wrap_i64]; omega
      have ry : IntKind.i64.wrap (a : Int) = (a : Int) := by rw [IntKind.wrap_i64]; omega
      have l1 := sw_lds S1.out R (by omega) xs
      have l2 := sw_lds S1.out R (by omega) yz
      have hcg := fun n os => sw_cmp (W := wr) d[h]! d[a]! n os
      have HCF : Aside (cfS d[h]! d[a]! < 0 ↔ d[a]!.r < d[h]!.r) := cfS_lt d[h]! d[a]!
      generalize cfS d[h]! d[a]! = cv at hcg HCF
      generalize enc3 d[h]! = cX at l1 l2 hcg
      generalize enc3 d[a]! = cY at l1 l2 hcg
      clear xs yz
      by_cases hv : cv < 0
      · go_wp2_with fail
        go_quiet_grown (first | (go_at_call 47; refine Calls.grown_of (hcg _ _)))
        have S2 : Aside _ := S1.out.grown nq osq
        clear l1 l2 hcg S1
        go_wp2
        go_roundg (j - (h + 1))
        case measure => omega
        case rel => exact ⟨h + 1, j, by go_num, rfl, Nat.le_refl _, FF.out.left H2.out hb1.1 hb1.2 ((crs_lt HC.out (Nat.le_refl a) (by omega) (by omega) (by omega)).1 (HCF.out.1 hv)), S2⟩
      · go_wp2_with fail
        go_quiet_grown (first | (go_at_call 47; refine Calls.grown_of (hcg _ _)))
        have S2 : Aside _ := S1.out.grown nq osq
        clear l1 l2 hcg S1
        go_wp2
        go_roundg (h - i)
        case measure => omega
        case rel => exact ⟨i, h, rfl, rfl, Nat.le_refl _, FF.out.right H2.out hb1.1 hb1.2 ((crs_lt HC.out (Nat.le_refl a) (by omega) (by omega) (by omega)).2 (fun hq => by have := HCF.out.2 hq; omega)), S2⟩
    · have hI : ¬ (i : Int) < (j : Int) := by omega
      have hij : i = j := by omega
      subst hij
      obtain ⟨n, hn⟩ : ∃ n : Nat, i - 1 - a = n := ⟨_, rfl⟩
      have S0 : Aside _ := S1
      clear S1
      go_wp2
      go_loopg [13] n (fun kx sk wr => ∃ (t : Nat), sk = .int .i64 ((a : Int) + (t : Int)) ∧ t ≤ n ∧ n - t ≤ kx ∧ Aside (SWK enc3 3 w0 blk 0 (mvU d a t) wr))
      case atStart => exact ⟨0, by go_num, by omega, by omega, S0⟩
      case round =>
        clear S0
        obtain ⟨t, rfl, htn, hkx2, S1⟩ := hrel
        have hsi := mvU_size d a t
        obtain ⟨x, hx⟩ : ∃ x : Nat, (a : Int) + (t : Int) = (x : Int) := ⟨a + t, by omega⟩
        have EX : Aside (x = a + t) := (by omega : x = a + t)
        rw [hx]
        by_cases hlt2 : t < n
        · have hI2 : (x : Int) < (i : Int) - 1 := by omega
          obtain ⟨y, hy⟩ : ∃ y : Nat, (x : Int) + 1 = (y : Int) := ⟨x + 1, by omega⟩
          have EY : Aside (y = x + 1) := (by omega : y = x + 1)
          have xs : x < (mvU d a t).size := by have := hsi; omega
          have ys : y < (mvU d a t).size := by have := hsi; omega
          have px : (0 : Int) ≤ (x : Int) := by omega
          have py : (0 : Int) ≤ (y : Int) := by omega
          have bx : (x : Int) < (d.size : Int) := by omega
          have bY : (y : Int) < (d.size : Int) := by omega
          have rx : IntKind.i64.wrap (x : Int) = (x : Int) := by rw [IntKind.wrap_i64]; omega
          have ry : IntKind.i64.wrap (y : Int) = (y : Int) := by rw [IntKind.wrap_i64]; omega
          have S2 : Aside (SWK enc3 3 w0 blk 0 (swp (mvU d a t) x y) ((wr.drew.setCells blk (x * 3) (enc3 (mvU d a t)[y]!)).setCells blk (y * 3) (enc3 (mvU d a t)[x]!))) := sw_swap S1.out R xs ys
          have l1 := sw_ld S1.out.drew R (by have := hsi; omega) xs
          have l2 := sw_ld S1.out.drew R (by have := hsi; omega) ys
          have s1 := sw_st1 S1.out.drew R (by have := hsi; omega) xs (mvU d a t)[y]!
          have s2 := sw_st2 S1.out.drew R (by have := hsi; omega) xs ys (mvU d a t)[y]! (mvU d a t)[x]!
          generalize enc3 (mvU d a t)[x]! = cX at S2 l1 l2 s1 s2
          generalize enc3 (mvU d a t)[y]! = cY at S2 l1 l2 s1 s2
          clear S1 xs ys hsi
          go_wp2_with fail
          go_big_region_o
          clear l1 l2 s1 s2
          generalize (wr.drew.setCells blk (x * 3) cY).setCells blk (y * 3) cX = w2 at S2 ⊢
          go_wp2
          go_roundg (n - (t + 1))
          case measure => omega
          case rel =>
            rw [EY.out, EX.out] at S2
            exact ⟨t + 1, by go_num, by omega, Nat.le_refl _, S2⟩
        · have hI2 : ¬ (x : Int) < (i : Int) - 1 := by omega
          go_wp2
          have ht : t = i - 1 - a := by omega
          have hm : m = a + 1 := by omega
          subst hm
          have S3 := S1.out
          rw [ht] at S3
          exact bodyPost_ret (v := .tuple #[]) (by simp [results, Try.results61, go_sem]) rfl ⟨rfl, _, S3, mvU_perm d a (i - 1 - a) a b (Nat.le_refl _) (by omega) hb _ (Nat.le_refl _), fst_done FF.out H2.out hb⟩
set_option maxHeartbeats 4000000 in
set_option maxRecDepth 1000000 in
/-- slices.symMergeCmpFunc where the right run is of one -/
theorem merge_last (blk cap a m b : Nat) (d0 d : Array Sh) (w0 w : World) (R : RowK enc3 3 w0 blk 0 d0) (hs : d0.size = d.size) (S : SWK enc3 3 w0 blk 0 d w) (ham : a < m) (ham1 : ((m : Int) - (a : Int) == 1) = false) (hmb : (b : Int) - (m : Int) = 1) (hb : b ≤ d.size) (hsz : d.size ≤ 1000)
    (h1 : Srt d a m) (hc : Crs d a m b) :
    Calls Try.prog 61 #[.slice (some ⟨blk, 0, none⟩) d.size cap, .int .i64 a, .int .i64 m, .int .i64 b, .func (.func 47) #[] #[]] w fun e w' => e = .returned (.tuple #[]) ∧ ∃ c : Array Sh, SWK enc3 3 w0 blk 0 c w' ∧ PermIn a b d c ∧ Srt c a b := by
  have S0 : Aside (SWK enc3 3 w0 blk 0 d w) := S
  have mixed : Try.prog.follows .mixedOrders = true := by kernel_rfl
  have H1 : Aside (Srt d a m) := h1
  have HC : Aside (Crs d a m b) := hc
  clear S h1 hc
  go_enter Try.func61, Try.ntmps61
  go_wp2
  go_loopg [14, 15, 16] (m - a) (fun kx si sj sh wr => ∃ (i j : Nat), si = .int .i64 i ∧ sj = .int .i64 j ∧ j - i ≤ kx ∧ Lst d a m i j ∧ Aside (SWK enc3 3 w0 blk 0 d wr))
  case atStart => exact ⟨a, m, rfl, rfl, by omega, ⟨by omega, by omega, by omega, fun x h1 h2 => by omega, fun x h1 h2 => by omega⟩, S0⟩
  case round =>
    clear S0
    obtain ⟨i, j, rfl, rfl, hkx, F, S1⟩ := hrel
    have f1 := F.ai; have f2 := F.ij; have f3 := F.jm
    have FF : Aside _ := F
    clear F
    by_cases hlt : i < j
    · have hI : (i : Int) < (j : Int) := by omega
      obtain ⟨h, hh⟩ : ∃ h : Nat, ((i : Int) + (j : Int)) / 2 = (h : Int) := ⟨(i + j) / 2, by omega⟩
      have hb1 : i ≤ h ∧ h < j := by omega
      have xs : m < d.size := by omega
      have yz : h < d.size := by omega
      have px : (0 : Int) ≤ (m : Int) := by omega
      have bx : (m : Int) < (d.size : Int) := by omega
      have py : (0 : Int) ≤ (h : Int) := by omega
      have bY : (h : Int) < (d.size : Int) := by omega
      have rx : IntKind.i64.wrap (m : Int) = (m : Int) := by rw [IntKind.wrap_i64]; omega
      have ry : IntKind.i64.wrap (h : Int) = (h : Int) := by rw [IntKind.wrap_i64]; omega
      have l1 := sw_lds S1.out R (by omega) xs
      have l2 := sw_lds S1.out R (by omega) yz
      have hcg := fun n os => sw_cmp (W := wr) d[m]! d[h]! n os
      have HCF : Aside (cfS d[m]! d[h]! < 0 ↔ d[h]!.r < d[m]!.r) := cfS_lt d[m]! d[h]!
      generalize cfS d[m]! d[h]! = cv at hcg HCF
      generalize enc3 d[m]! = cX at l1 l2 hcg
      generalize enc3 d[h]! = cY at l1 l2 hcg
      clear xs yz
      by_cases hv : cv < 0
      · have hv2 : decide (cv < 0) = true := decide_eq_true hv
        go_wp2_with fail
        go_quiet_grown (first | (go_at_call 47; refine Calls.grown_of (hcg _ _)))
        have S2 : Aside _ := S1.out.grown nq osq
        clear l1 l2 hcg S1
        go_wp2
        all_goals first | (exfalso; omega) | skip
        go_roundg (h - i)
        case measure => omega
        case rel => exact ⟨i, h, rfl, rfl, Nat.le_refl _, FF.out.right H1.out hb1.1 hb1.2 ((crs_lt HC.out (by omega) (by omega) (Nat.le_refl m) (by omega)).1 (HCF.out.1 hv)), S2⟩
      · have hv2 : decide (cv < 0) = false := decide_eq_false hv
        go_wp2_with fail
        go_quiet_grown (first | (go_at_call 47; refine Calls.grown_of (hcg _ _)))
        have S2 : Aside _ := S1.out.grown nq osq
        clear l1 l2 hcg S1
        go_wp2
        all_goals first | (exfalso; omega) | skip
        go_roundg (j - (h + 1))
        case measure => omega
        case rel => exact ⟨h + 1, j, by go_num, rfl, Nat.le_refl _, FF.out.left H1.out hb1.1 hb1.2 ((crs_lt HC.out (by omega) (by omega) (Nat.le_refl m) (by omega)).2 (fun hq => by have := HCF.out.2 hq; omega)), S2⟩
    · have hI : ¬ (i : Int) < (j : Int) := by omega
      have hij : i = j := by omega
      subst hij
      obtain ⟨n, hn⟩ : ∃ n : Nat, m - i = n := ⟨_, rfl⟩
      have S0 : Aside _ := S1
      clear S1
      go_wp2
      go_loopg [17] n (fun kx sk wr => ∃ (t : Nat), sk = .int .i64 ((m : Int) - (t : Int)) ∧ t ≤ n ∧ n - t ≤ kx ∧ Aside (SWK enc3 3 w0 blk 0 (mvD d m t) wr))
      case atStart => exact ⟨0, by go_num, by omega, by omega, S0⟩
      case round =>
        clear S0
        obtain ⟨t, rfl, htn, hkx2, S1⟩ := hrel
        have hsi := mvD_size d m t
        obtain ⟨x, hx⟩ : ∃ x : Nat, (m : Int) - (t : Int) = (x : Int) := ⟨m - t, by omega⟩
        have EX : Aside (x = m - t) := (by omega : x = m - t)
        rw [hx]
        by_cases hlt2 : t < n
        · have hI2 : (i : Int) < (x : Int) := by omega
          obtain ⟨y, hy⟩ : ∃ y : Nat, (x : Int) - 1 = (y : Int) := ⟨x - 1, by omega⟩
          have EY : Aside (y = x - 1) := (by omega : y = x - 1)
          have xs : x < (mvD d m t).size := by have := hsi; omega
          have ys : y < (mvD d m t).size := by have := hsi; omega
          have px : (0 : Int) ≤ (x : Int) := by omega
          have py : (0 : Int) ≤ (y : Int) := by omega
          have bx : (x : Int) < (d.size : Int) := by omega
          have bY : (y : Int) < (d.size : Int) := by omega
          have rx : IntKind.i64.wrap (x : Int) = (x : Int) := by rw [IntKind.wrap_i64]; omega
          have ry : IntKind.i64.wrap (y : Int) = (y : Int) := by rw [IntKind.wrap_i64]; omega
          have S2 : Aside (SWK enc3 3 w0 blk 0 (swp (mvD d m t) x y) ((wr.drew.setCells blk (x * 3) (enc3 (mvD d m t)[y]!)).setCells blk (y * 3) (enc3 (mvD d m t)[x]!))) := sw_swap S1.out R xs ys
          have l1 := sw_ld S1.out.drew R (by have := hsi; omega) xs
          have l2 := sw_ld S1.out.drew R (by have := hsi; omega) ys
          have s1 := sw_st1 S1.out.drew R (by have := hsi; omega) xs (mvD d m t)[y]!
          have s2 := sw_st2 S1.out.drew R (by have := hsi; omega) xs ys (mvD d m t)[y]! (mvD d m t)[x]!
          generalize enc3 (mvD d m t)[x]! = cX at S2 l1 l2 s1 s2
          generalize enc3 (mvD d m t)[y]! = cY at S2 l1 l2 s1 s2
          clear S1 xs ys hsi
          go_wp2_with fail
          go_big_region_o
          clear l1 l2 s1 s2
          generalize (wr.drew.setCells blk (x * 3) cY).setCells blk (y * 3) cX = w2 at S2 ⊢
          go_wp2
          go_roundg (n - (t + 1))
          case measure => omega
          case rel =>
            rw [EY.out, EX.out] at S2
            exact ⟨t + 1, by go_num, by omega, Nat.le_refl _, S2⟩
        · have hI2 : ¬ (i : Int) < (x : Int) := by omega
          go_wp2
          have ht : t = m - i := by omega
          have hm : b = m + 1 := by omega
          subst hm
          have S3 := S1.out
          rw [ht] at S3
          exact bodyPost_ret (v := .tuple #[]) (by simp [results, Try.results61, go_sem]) rfl ⟨rfl, _, S3, mvD_perm d m (m - i) a (m + 1) (by omega) (by omega) hb _ (Nat.le_refl _), lst_done FF.out H1.out (by omega)⟩
end Go.Proofs.Ytddpladmkmpoaaa
