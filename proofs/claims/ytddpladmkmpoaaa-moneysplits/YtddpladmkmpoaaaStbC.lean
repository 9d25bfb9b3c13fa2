import Derived.Test.YtddpladmkmpoaaaStbB
namespace Go.Proofs.Ytddpladmkmpoaaa
open Go.ChangeShapes Go.WideShapes Go.ChangeAt Go.RowKit Go.Sort Go.Lib Go.Shelf
set_option linter.unusedVariables false
attribute [local go_sem ↓] ld50_is st50_is
set_option maxHeartbeats 4000000 in
set_option maxRecDepth 1000000 in
theorem merge_up (blk cap a m b : Nat) (d0 d : Array Sh) (w0 w : World) (R : RowK enc3 3 w0 blk 0 d0) (hs : d0.size = d.size) (S : SWK enc3 3 w0 blk 0 d w) (ham : a < m) (ham1 : ((m : Int) - (a : Int) == 1) = false) (hmb : m < b) (hmb1 : ((b : Int) - (m : Int) == 1) = false) (hb : b ≤ d.size) (hsz : d.size ≤ 1000)
    (h1 : Srt d a m) (h2 : Srt d m b) (hc : Crs d a m b) (LL : Nat) (hLL : b - a ≤ LL + 1) (ih : ∀ (a m b : Nat) (c : Array Sh) (W : World), c.size = d.size → SWK enc3 3 w0 blk 0 c W → a < m → m < b → b ≤ d.size → b - a ≤ LL → Srt c a m → Srt c m b → Crs c a m b → Calls Try.prog 61 #[.slice (some ⟨blk, 0, none⟩) d.size cap, .int .i64 a, .int .i64 m, .int .i64 b, .func (.func 47) #[] #[]] W fun e w' => e = .returned (.tuple #[]) ∧ ∃ c' : Array Sh, SWK enc3 3 w0 blk 0 c' w' ∧ PermIn a b c c' ∧ Srt c' a b) (hUP : (a + b) / 2 < m) :
    Calls Try.prog 61 #[.slice (some ⟨blk, 0, none⟩) d.size cap, .int .i64 a, .int .i64 m, .int .i64 b, .func (.func 47) #[] #[]] w fun e w' => e = .returned (.tuple #[]) ∧ ∃ c : Array Sh, SWK enc3 3 w0 blk 0 c w' ∧ PermIn a b d c ∧ Srt c a b := by
  have S0 : Aside (SWK enc3 3 w0 blk 0 d w) := S
  have mixed : Try.prog.follows .mixedOrders = true := by kernel_rfl
  have H1 : Aside (Srt d a m) := h1
  have H2 : Aside (Srt d m b) := h2
  have HC : Aside (Crs d a m b) := hc
  have IH : Aside _ := ih
  have A83 : Aside (∀ (a m b : Nat) (W : World), SWK enc3 3 w0 blk 0 d W → a < m → m < b → b ≤ d.size → Calls Try.prog 63 #[.slice (some ⟨blk, 0, none⟩) d.size cap, .int .i64 a, .int .i64 m, .int .i64 b, .func (.func 47) #[] #[]] W fun e w' => e = .returned (.tuple #[]) ∧ ∃ c : Array Sh, SWK enc3 3 w0 blk 0 c w' ∧ PermIn a b d c ∧ Rot d c a m b) := fun a m b W hS h1 h2 h3 => rotate_any blk cap a m b d0 d w0 W R hs hS h1 h2 h3 hsz
  obtain ⟨mid, hmid⟩ : ∃ mid : Nat, ((a : Int) + (b : Int)) / 2 = (mid : Int) := ⟨(a + b) / 2, by omega⟩
  obtain ⟨n, hn⟩ : ∃ n : Nat, (mid : Int) + (m : Int) = (n : Int) := ⟨mid + m, by omega⟩
  obtain ⟨p, hp⟩ : ∃ p : Nat, (n : Int) - 1 = (p : Int) := ⟨n - 1, by omega⟩
  have EM : Aside (mid = (a + b) / 2) := (by omega : mid = (a + b) / 2)
  have EP : Aside (p = mid + m - 1) := (by omega : p = mid + m - 1)
  clear S h1 h2 hc ih
  have hup : (mid : Int) < (m : Int) := by have := EM.out; omega
  obtain ⟨s0, hs0⟩ : ∃ s0 : Nat, (n : Int) - (b : Int) = (s0 : Int) := ⟨n - b, by have := EM.out; omega⟩
  have E0 : Aside (mid < m ∧ s0 = mid + m - b ∧ mid = mid ∨ m ≤ mid ∧ s0 = a ∧ mid = m) := .inl ⟨by omega, by omega, rfl⟩
  have g1 : a ≤ s0 ∧ s0 ≤ mid ∧ mid ≤ m ∧ mid ≤ mid := by have := EM.out; omega
  have g2 : mid + m - b ≤ s0 := by have := EM.out; omega
  clear hUP
  go_enter Try.func61, Try.ntmps61
  go_wp2
  go_loopg [20, 21, 23] (mid - s0) (fun kx ss sr sc wr => ∃ (s r : Nat), ss = .int .i64 s ∧ sr = .int .i64 r ∧ r - s ≤ kx ∧ Fnd d p s0 mid s r ∧ Aside (SWK enc3 3 w0 blk 0 d wr))
  case atStart => exact ⟨s0, mid, rfl, rfl, Nat.le_refl _, ⟨Nat.le_refl _, g1.2.1, Nat.le_refl _, .inl rfl, .inl rfl⟩, S0⟩
  case round =>
    clear S0
    obtain ⟨s, r, rfl, rfl, hkx, F, S1⟩ := hrel
    have f1 := F.lo; have f2 := F.sr; have f3 := F.hi
    have FF : Aside _ := F
    clear F
    by_cases hlt : s < r
    · have hI : (s : Int) < (r : Int) := by omega
      obtain ⟨k, hk⟩ : ∃ k : Nat, ((s : Int) + (r : Int)) / 2 = (k : Int) := ⟨(s + r) / 2, by omega⟩
      have hb1 : s ≤ k ∧ k < r := by omega
      obtain ⟨q, hq⟩ : ∃ q : Nat, (p : Int) - (k : Int) = (q : Int) := ⟨p - k, by have := EP.out; omega⟩
      have EQ : Aside (q = p - k) := (by omega : q = p - k)
      have hq1 : m ≤ q ∧ q < b := by have := EP.out; omega
      have xs : q < d.size := by omega
      have yz : k < d.size := by omega
      have px : (0 : Int) ≤ (q : Int) := by omega
      have bx : (q : Int) < (d.size : Int) := by omega
      have py : (0 : Int) ≤ (k : Int) := by omega
      have bY : (k : Int) < (d.size : Int) := by omega
      have rx : IntKind.i64.wrap (q : Int) = (q : Int) := by rw [IntKind.wrap_i64]; omega
      have ry : IntKind.i64.wrap (k : Int) = (k : Int) := by rw [IntKind.wrap_i64]; omega
      have l1 := sw_lds S1.out R (by omega) xs
      have l2 := sw_lds S1.out R (by omega) yz
      have hcg := fun n os => sw_cmp (W := wr) d[q]! d[k]! n os
      have HCF : Aside (cfS d[q]! d[k]! < 0 ↔ d[k]!.r < d[q]!.r) := cfS_lt d[q]! d[k]!
      generalize cfS d[q]! d[k]! = cv at hcg HCF
      generalize enc3 d[q]! = cX at l1 l2 hcg
      generalize enc3 d[k]! = cY at l1 l2 hcg
      clear xs yz
      by_cases hv : cv < 0
      · have hv2 : decide (cv < 0) = true := decide_eq_true hv
        go_wp2_with fail
        go_quiet_grown (first | (go_at_call 47; refine Calls.grown_of (hcg _ _)))
        have S2 : Aside _ := S1.out.grown nq osq
        clear l1 l2 hcg S1
        go_wp2
        all_goals first | (exfalso; omega) | skip
        go_roundg (k - s)
        case measure => omega
        case rel => exact ⟨s, k, rfl, rfl, Nat.le_refl _, ⟨FF.out.lo, hb1.1, by omega, FF.out.fl, .inr (by rw [← EQ.out]; exact (crs_lt HC.out (by omega) (by omega) hq1.1 hq1.2).1 (HCF.out.1 hv))⟩, S2⟩
      · have hv2 : decide (cv < 0) = false := decide_eq_false hv
        go_wp2_with fail
        go_quiet_grown (first | (go_at_call 47; refine Calls.grown_of (hcg _ _)))
        have S2 : Aside _ := S1.out.grown nq osq
        clear l1 l2 hcg S1
        go_wp2
        all_goals first | (exfalso; omega) | skip
        go_roundg (r - (k + 1))
        case measure => omega
        case rel => exact ⟨k + 1, r, by go_num, rfl, Nat.le_refl _, ⟨by omega, by omega, FF.out.hi, .inr (by rw [Nat.add_sub_cancel, ← EQ.out]; exact (crs_lt HC.out (by omega) (by omega) hq1.1 hq1.2).2 (fun hq2 => by have := HCF.out.2 hq2; omega)), FF.out.fr⟩, S2⟩
    · have hI : ¬ (s : Int) < (r : Int) := by omega
      have hij : r = s := by omega
      subst hij
      have CUT : Cut d a r m (mid + m - r) b := (by have h := FF.out; rw [EP.out] at h; exact h : Fnd d (mid + m - 1) s0 mid r r).cut ham hmb EM.out (by first | exact .inl ⟨by omega, by omega, rfl⟩ | exact .inr ⟨by omega, rfl, rfl⟩) H1.out H2.out
      obtain ⟨e, he⟩ : ∃ e : Nat, (n : Int) - (r : Int) = (e : Int) := ⟨n - r, by omega⟩
      have EE : mid + m - r = e := by omega
      rw [EE] at CUT
      have CC : Aside _ := CUT
      have ES : Aside (r + (e - m) = mid) := (by have := CUT.sm; have := CUT.me; omega : r + (e - m) = mid)
      obtain ⟨s, hss⟩ : ∃ s, r = s := ⟨_, rfl⟩
      subst hss
      clear CUT FF E0 EE
      by_cases hro : r < m ∧ m < e
      · have hro1 : (r : Int) < (m : Int) := by omega
        have hro2 : (m : Int) < (e : Int) := by omega
        have C7 := hide (A83.out r m e wr S1.out hro.1 hro.2 (by have := CC.out.eb; omega))
        clear hro S1
        go_wp2_with fail
        refine (unhide C7).mono ?_
        rintro e7 w7 ⟨rfl, c7, s7, p7, r7⟩
        have S7 : Aside _ := s7
        have RR : Aside (Rot d c7 r m e) := r7
        have PP : Aside (PermIn a b d c7) := permIn_mono _ _ _ _ _ _ CC.out.as CC.out.eb hb p7
        have SZ : Aside (c7.size = d.size) := p7.1
        clear s7 p7 r7
        have Q1 : Aside (Srt c7 a r) := RR.out.s1 H1.out CC.out.sm
        have Q2 : Aside (Srt c7 r mid) := (by have h := RR.out.s2 H2.out CC.out.eb CC.out.me; rw [ES.out] at h; exact h : Srt c7 r mid)
        have Q3 : Aside (Srt c7 mid e) := (by have h := RR.out.s3 H1.out CC.out.as CC.out.sm CC.out.me; rw [ES.out] at h; exact h : Srt c7 mid e)
        have Q4 : Aside (Srt c7 e b) := RR.out.s4 H2.out CC.out.me
        have X1 : Aside (Crs c7 a r mid) := (by have h := RR.out.c1 HC.out CC.out.sm CC.out.me CC.out.eb; rw [ES.out] at h; exact h : Crs c7 a r mid)
        have X2 : Aside (Crs c7 mid e b) := (by have h := RR.out.c2 HC.out CC.out.as CC.out.sm CC.out.me; rw [ES.out] at h; exact h : Crs c7 mid e b)
        have HH : Aside (∀ x y, a ≤ x → x < mid → mid ≤ y → y < b → lts c7[x]! c7[y]!) := (by have h := RR.out.half CC.out H1.out H2.out; rw [ES.out] at h; exact h)
        by_cases hl : a < r ∧ r < mid
        · have hl1 : (a : Int) < (r : Int) := by omega
          have hl2 : (r : Int) < (mid : Int) := by omega
          have C8 := hide (IH.out a r mid c7 _ (by have := SZ.out; omega) S7.out hl.1 hl.2 (by have := EM.out; omega) (by have := EM.out; omega) Q1.out Q2.out X1.out)
          clear hl
          go_wp2_with fail
          refine (unhide C8).mono ?_
          rintro e8 w8 ⟨rfl, c8, s8, p8, q8⟩
          have S8 : Aside _ := s8
          have SL : Aside (Srt c8 a mid) := q8
          have Q3' : Aside (Srt c8 mid e) := srt_out p8 Q3.out (.inr (Nat.le_refl _))
          have Q4' : Aside (Srt c8 e b) := srt_out p8 Q4.out (.inr (by have := CC.out.me; have := ES.out; have := CC.out.sm; omega))
          have X2' : Aside (Crs c8 mid e b) := crs_out p8 X2.out (.inr (Nat.le_refl _))
          have HH' : Aside (∀ x y, a ≤ x → x < mid → mid ≤ y → y < b → lts c8[x]! c8[y]!) := half_perm (by have := EM.out; omega) (by have := EM.out; omega) (by have := SZ.out; omega) p8 HH.out
          have PP' : Aside (PermIn a b d c8) := permIn_trans _ _ _ _ _ PP.out (permIn_mono _ _ _ _ _ _ (Nat.le_refl a) (by have := EM.out; omega) (by have := SZ.out; omega) p8)
          have SZ' : Aside (c8.size = d.size) := (by have h := p8.1; have := SZ.out; omega : c8.size = d.size)
          clear s8 q8 p8 Q1 Q2 Q3 Q4 X1 X2 HH PP SZ
          by_cases hr : mid < e ∧ e < b
          · have hr1 : (mid : Int) < (e : Int) := by omega
            have hr2 : (e : Int) < (b : Int) := by omega
            have C9 := hide (IH.out mid e b c8 _ (by have := SZ'.out; omega) S8.out hr.1 hr.2 hb (by have := EM.out; omega) Q3'.out Q4'.out X2'.out)
            clear hr
            go_wp2_with fail
            all_goals
              refine (unhide C9).mono ?_
              rintro e9 w9 ⟨rfl, c9, s9, p9, q9⟩
              go_wp2
              go_end0
              refine ⟨rfl, c9, s9, permIn_trans _ _ _ _ _ PP'.out (permIn_mono _ _ _ _ _ _ (by have := EM.out; omega) (Nat.le_refl b) (by have := SZ'.out; omega) p9), ?_⟩
              exact srt_join (srt_out p9 SL.out (.inl (Nat.le_refl _))) q9 (half_perm2 (by have := EM.out; omega) (by have := EM.out; omega) (by have := SZ'.out; omega) p9 HH'.out)
          · have hr3 : mid = e ∨ e = b := by have := CC.out.me; have := CC.out.eb; have := ES.out; have := CC.out.sm; omega
            have SR : Srt c8 mid b := by
              rcases hr3 with h | h
              · rw [h]; exact Q4'.out
              · rw [← h]; exact Q3'.out
            have SR : Aside _ := SR
            have hr4 : ¬ (mid : Int) < (e : Int) ∨ (mid : Int) < (e : Int) ∧ ¬ (e : Int) < (b : Int) := by omega
            clear hr hr3
            rcases hr4 with hr1 | ⟨hr1, hr2⟩
            all_goals
              go_wp2
              all_goals
                go_end0
                exact ⟨rfl, _, S8.out, PP'.out, srt_join SL.out SR.out HH'.out⟩
        · have hl3 : a = r ∨ r = mid := by have := CC.out.as; have := ES.out; omega
          have SL : Aside (Srt c7 a mid) := (by
            rcases hl3 with h | h
            · rw [h]; exact Q2.out
            · rw [← h]; exact Q1.out : Srt c7 a mid)
          have hl4 : ¬ (a : Int) < (r : Int) ∨ (a : Int) < (r : Int) ∧ ¬ (r : Int) < (mid : Int) := by omega
          clear hl hl3
          rcases hl4 with hl1 | ⟨hl1, hl2⟩
          all_goals
            by_cases hr : mid < e ∧ e < b
            · have hr1 : (mid : Int) < (e : Int) := by omega
              have hr2 : (e : Int) < (b : Int) := by omega
              have C9 := hide (IH.out mid e b c7 _ (by have := SZ.out; omega) S7.out hr.1 hr.2 hb (by have := EM.out; omega) Q3.out Q4.out X2.out)
              clear hr
              go_wp2_with fail
              all_goals
                refine (unhide C9).mono ?_
                rintro e9 w9 ⟨rfl, c9, s9, p9, q9⟩
                go_wp2
                go_end0
                refine ⟨rfl, c9, s9, permIn_trans _ _ _ _ _ PP.out (permIn_mono _ _ _ _ _ _ (by have := EM.out; omega) (Nat.le_refl b) (by have := SZ.out; omega) p9), ?_⟩
                exact srt_join (srt_out p9 SL.out (.inl (Nat.le_refl _))) q9 (half_perm2 (by have := EM.out; omega) (by have := EM.out; omega) (by have := SZ.out; omega) p9 HH.out)
            · have hr3 : mid = e ∨ e = b := by have := CC.out.me; have := CC.out.eb; have := ES.out; have := CC.out.sm; omega
              have SR : Srt c7 mid b := by
                rcases hr3 with h | h
                · rw [h]; exact Q4.out
                · rw [← h]; exact Q3.out
              have SR : Aside _ := SR
              have hr4 : ¬ (mid : Int) < (e : Int) ∨ (mid : Int) < (e : Int) ∧ ¬ (e : Int) < (b : Int) := by omega
              clear hr hr3
              rcases hr4 with hr1 | ⟨hr1, hr2⟩
              all_goals
                go_wp2
                all_goals
                  go_end0
                  exact ⟨rfl, _, S7.out, PP.out, srt_join SL.out SR.out HH.out⟩

      · have hro3 : r = m ∨ e = m := by have := CC.out.sm; have := CC.out.me; omega
        have RR : Aside (Rot d d r m e) := (rot_of CC.out.sm CC.out.me (fun x => by
          unfold rotF
          (repeat' split) <;> first | rfl | (exfalso; omega) | (congr 1; omega)) : Rot d d r m e)
        have PP : Aside (PermIn a b d d) := permIn_refl d a b
        have SZ : Aside (d.size = d.size) := rfl
        have hro4 : ¬ (r : Int) < (m : Int) ∨ (r : Int) < (m : Int) ∧ ¬ (m : Int) < (e : Int) := by omega
        clear hro hro3
        rcases hro4 with hro1 | ⟨hro1, hro2⟩
        all_goals
          have Q1 : Aside (Srt d a r) := RR.out.s1 H1.out CC.out.sm
          have Q2 : Aside (Srt d r mid) := (by have h := RR.out.s2 H2.out CC.out.eb CC.out.me; rw [ES.out] at h; exact h : Srt d r mid)
          have Q3 : Aside (Srt d mid e) := (by have h := RR.out.s3 H1.out CC.out.as CC.out.sm CC.out.me; rw [ES.out] at h; exact h : Srt d mid e)
          have Q4 : Aside (Srt d e b) := RR.out.s4 H2.out CC.out.me
          have X1 : Aside (Crs d a r mid) := (by have h := RR.out.c1 HC.out CC.out.sm CC.out.me CC.out.eb; rw [ES.out] at h; exact h : Crs d a r mid)
          have X2 : Aside (Crs d mid e b) := (by have h := RR.out.c2 HC.out CC.out.as CC.out.sm CC.out.me; rw [ES.out] at h; exact h : Crs d mid e b)
          have HH : Aside (∀ x y, a ≤ x → x < mid → mid ≤ y → y < b → lts d[x]! d[y]!) := (by have h := RR.out.half CC.out H1.out H2.out; rw [ES.out] at h; exact h)
          by_cases hl : a < r ∧ r < mid
          · have hl1 : (a : Int) < (r : Int) := by omega
            have hl2 : (r : Int) < (mid : Int) := by omega
            have C8 := hide (IH.out a r mid d _ (by have := SZ.out; omega) S1.out hl.1 hl.2 (by have := EM.out; omega) (by have := EM.out; omega) Q1.out Q2.out X1.out)
            clear hl
            go_wp2_with fail
            refine (unhide C8).mono ?_
            rintro e8 w8 ⟨rfl, c8, s8, p8, q8⟩
            have S8 : Aside _ := s8
            have SL : Aside (Srt c8 a mid) := q8
            have Q3' : Aside (Srt c8 mid e) := srt_out p8 Q3.out (.inr (Nat.le_refl _))
            have Q4' : Aside (Srt c8 e b) := srt_out p8 Q4.out (.inr (by have := CC.out.me; have := ES.out; have := CC.out.sm; omega))
            have X2' : Aside (Crs c8 mid e b) := crs_out p8 X2.out (.inr (Nat.le_refl _))
            have HH' : Aside (∀ x y, a ≤ x → x < mid → mid ≤ y → y < b → lts c8[x]! c8[y]!) := half_perm (by have := EM.out; omega) (by have := EM.out; omega) (by have := SZ.out; omega) p8 HH.out
            have PP' : Aside (PermIn a b d c8) := permIn_trans _ _ _ _ _ PP.out (permIn_mono _ _ _ _ _ _ (Nat.le_refl a) (by have := EM.out; omega) (by have := SZ.out; omega) p8)
            have SZ' : Aside (c8.size = d.size) := (by have h := p8.1; have := SZ.out; omega : c8.size = d.size)
            clear s8 q8 p8 Q1 Q2 Q3 Q4 X1 X2 HH PP SZ
            by_cases hr : mid < e ∧ e < b
            · have hr1 : (mid : Int) < (e : Int) := by omega
              have hr2 : (e : Int) < (b : Int) := by omega
              have C9 := hide (IH.out mid e b c8 _ (by have := SZ'.out; omega) S8.out hr.1 hr.2 hb (by have := EM.out; omega) Q3'.out Q4'.out X2'.out)
              clear hr
              go_wp2_with fail
              all_goals
                refine (unhide C9).mono ?_
                rintro e9 w9 ⟨rfl, c9, s9, p9, q9⟩
                go_wp2
                go_end0
                refine ⟨rfl, c9, s9, permIn_trans _ _ _ _ _ PP'.out (permIn_mono _ _ _ _ _ _ (by have := EM.out; omega) (Nat.le_refl b) (by have := SZ'.out; omega) p9), ?_⟩
                exact srt_join (srt_out p9 SL.out (.inl (Nat.le_refl _))) q9 (half_perm2 (by have := EM.out; omega) (by have := EM.out; omega) (by have := SZ'.out; omega) p9 HH'.out)
            · have hr3 : mid = e ∨ e = b := by have := CC.out.me; have := CC.out.eb; have := ES.out; have := CC.out.sm; omega
              have SR : Srt c8 mid b := by
                rcases hr3 with h | h
                · rw [h]; exact Q4'.out
                · rw [← h]; exact Q3'.out
              have SR : Aside _ := SR
              have hr4 : ¬ (mid : Int) < (e : Int) ∨ (mid : Int) < (e : Int) ∧ ¬ (e : Int) < (b : Int) := by omega
              clear hr hr3
              rcases hr4 with hr1 | ⟨hr1, hr2⟩
              all_goals
                go_wp2
                all_goals
                  go_end0
                  exact ⟨rfl, _, S8.out, PP'.out, srt_join SL.out SR.out HH'.out⟩
          · have hl3 : a = r ∨ r = mid := by have := CC.out.as; have := ES.out; omega
            have SL : Aside (Srt d a mid) := (by
              rcases hl3 with h | h
              · rw [h]; exact Q2.out
              · rw [← h]; exact Q1.out : Srt d a mid)
            have hl4 : ¬ (a : Int) < (r : Int) ∨ (a : Int) < (r : Int) ∧ ¬ (r : Int) < (mid : Int) := by omega
            clear hl hl3
            rcases hl4 with hl1 | ⟨hl1, hl2⟩
            all_goals
              by_cases hr : mid < e ∧ e < b
              · have hr1 : (mid : Int) < (e : Int) := by omega
                have hr2 : (e : Int) < (b : Int) := by omega
                have C9 := hide (IH.out mid e b d _ (by have := SZ.out; omega) S1.out hr.1 hr.2 hb (by have := EM.out; omega) Q3.out Q4.out X2.out)
                clear hr
                go_wp2_with fail
                all_goals
                  refine (unhide C9).mono ?_
                  rintro e9 w9 ⟨rfl, c9, s9, p9, q9⟩
                  go_wp2
                  go_end0
                  refine ⟨rfl, c9, s9, permIn_trans _ _ _ _ _ PP.out (permIn_mono _ _ _ _ _ _ (by have := EM.out; omega) (Nat.le_refl b) (by have := SZ.out; omega) p9), ?_⟩
                  exact srt_join (srt_out p9 SL.out (.inl (Nat.le_refl _))) q9 (half_perm2 (by have := EM.out; omega) (by have := EM.out; omega) (by have := SZ.out; omega) p9 HH.out)
              · have hr3 : mid = e ∨ e = b := by have := CC.out.me; have := CC.out.eb; have := ES.out; have := CC.out.sm; omega
                have SR : Srt d mid b := by
                  rcases hr3 with h | h
                  · rw [h]; exact Q4.out
                  · rw [← h]; exact Q3.out
                have SR : Aside _ := SR
                have hr4 : ¬ (mid : Int) < (e : Int) ∨ (mid : Int) < (e : Int) ∧ ¬ (e : Int) < (b : Int) := by omega
                clear hr hr3
                rcases hr4 with hr1 | ⟨hr1, hr2⟩
                all_goals
                  go_wp2
                  all_goals
                    go_end0
                    exact ⟨rfl, _, S1.out, PP.out, srt_join SL.out SR.out HH.out⟩

end Go.Proofs.Ytddpladmkmpoaaa
