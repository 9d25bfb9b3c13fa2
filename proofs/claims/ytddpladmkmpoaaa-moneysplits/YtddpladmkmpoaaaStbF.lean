import Derived.Test.YtddpladmkmpoaaaStbE
import Derived.Test.YtddpladmkmpoaaaStbQ
namespace Go.Proofs.Ytddpladmkmpoaaa
open Go.ChangeShapes Go.WideShapes Go.ChangeAt Go.RowKit Go.Sort Go.Lib Go.Shelf
set_option linter.unusedVariables false
/-- the first blocks of 20 are sorted -/
structure P1 (d c : Array Sh) (k n : Nat) : Prop where
  perm : PermIn 0 n d c
  z : Zp 20 c 0 n
  s : Sp 20 c 0 (k * 20)
  r : Ris c (k * 20) n
theorem P1.step {d c c' : Array Sh} {k n b : Nat} (h : P1 d c k n) (hb : b ≤ (k + 1) * 20) (hkb : k * 20 ≤ b) (hbn : b ≤ n) (hn : n ≤ d.size) (P : PermIn (k * 20) b c c') (s : Srt c' (k * 20) b) : PermIn 0 n d c' ∧ Zp 20 c' 0 n ∧ Sp 20 c' 0 b ∧ Ris c' b n := by
  have hs : c.size = d.size := h.perm.1
  refine ⟨permIn_trans _ _ _ _ _ h.perm (permIn_mono _ _ _ _ _ _ (Nat.zero_le _) hbn (by omega) P), zp_step (by decide) rfl hb hbn (by omega) P h.z, sp_step (by decide) rfl hb P h.s s, ?_⟩
  intro x y h1 h2 h3
  rw [P.2.1 x (by omega), P.2.1 y (by omega)]
  exact h.r x y (by omega) h2 h3
/-- the first double blocks are sorted, the others' halves are -/
structure P2 (d c : Array Sh) (bs k n : Nat) : Prop where
  perm : PermIn 0 n d c
  z2 : Zp (2 * bs) c 0 n
  z1 : Zp bs c (k * (2 * bs)) n
  s2 : Sp (2 * bs) c 0 (k * (2 * bs))
  s1 : Sp bs c (k * (2 * bs)) n
theorem P2.step {d c c' : Array Sh} {bs k n b : Nat} (h : P2 d c bs k n) (h0 : 0 < bs) (hb : b ≤ (k + 1) * (2 * bs)) (hkb : k * (2 * bs) ≤ b) (hbn : b ≤ n) (hn : n ≤ d.size) (P : PermIn (k * (2 * bs)) b c c') (s : Srt c' (k * (2 * bs)) b) : PermIn 0 n d c' ∧ Zp (2 * bs) c' 0 n ∧ Zp bs c' b n ∧ Sp (2 * bs) c' 0 b ∧ Sp bs c' b n := by
  have hs : c.size = d.size := h.perm.1
  exact ⟨permIn_trans _ _ _ _ _ h.perm (permIn_mono _ _ _ _ _ _ (Nat.zero_le _) hbn (by omega) P), zp_step (by omega) rfl hb hbn (by omega) P h.z2, zp_out P h.z1 hkb, sp_step (by omega) rfl hb P h.s2 s, sp_out P h.s1 hkb⟩
set_option maxHeartbeats 4000000 in
set_option maxRecDepth 1000000 in
/-- slices.stableCmpFunc -/
theorem stable_any (blk cap : Nat) (d : Array Sh) (w : World) (R : RowK enc3 3 w blk 0 d) (hsz : d.size ≤ 1000) (hr : Ris d 0 d.size) :
    Calls Try.prog 57 #[.slice (some ⟨blk, 0, none⟩) d.size cap, .int .i64 d.size, .func (.func 47) #[] #[]] w fun e w' => e = .returned (.tuple #[]) ∧ ∃ c : Array Sh, SWK enc3 3 w blk 0 c w' ∧ PermIn 0 d.size d c ∧ Srt c 0 d.size := by
  have S0 : Aside (SWK enc3 3 w blk 0 d w) := SWK.start R.hH
  have HR : Aside (Ris d 0 d.size) := hr
  have A1 : Aside (∀ (a b : Nat) (c : Array Sh) (W : World), c.size = d.size → SWK enc3 3 w blk 0 c W → a ≤ b → b ≤ d.size → Ris c a b → Calls Try.prog 60 #[.slice (some ⟨blk, 0, none⟩) d.size cap, .int .i64 a, .int .i64 b, .func (.func 47) #[] #[]] W fun e w' => e = .returned (.tuple #[]) ∧ ∃ c' : Array Sh, SWK enc3 3 w blk 0 c' w' ∧ PermIn a b c c' ∧ Srt c' a b) :=
    fun a b c W h1 h2 h3 h4 h5 => insert_at blk cap d w R hsz a b c W h1 h2 h3 h4 h5
  have A2 : Aside (∀ (a m b : Nat) (c : Array Sh) (W : World), c.size = d.size → SWK enc3 3 w blk 0 c W → a < m → m < b → b ≤ d.size → Srt c a m → Srt c m b → Crs c a m b → Calls Try.prog 61 #[.slice (some ⟨blk, 0, none⟩) d.size cap, .int .i64 a, .int .i64 m, .int .i64 b, .func (.func 47) #[] #[]] W fun e w' => e = .returned (.tuple #[]) ∧ ∃ c' : Array Sh, SWK enc3 3 w blk 0 c' w' ∧ PermIn a b c c' ∧ Srt c' a b) :=
    fun a m b c W h1 h2 h3 h4 h5 h6 h7 h8 => merge_any blk cap d w R hsz (b - a) a m b c W h1 h2 h3 h4 h5 (Nat.le_refl _) h6 h7 h8
  obtain ⟨n, hn⟩ : ∃ n, d.size = n := ⟨_, rfl⟩
  rw [hn] at A1 A2 HR hsz hr ⊢
  clear R hr
  go_enter Try.func57, Try.ntmps57
  go_wp2
  go_loopg [7, 8] (n + 1) (fun kx sa sb wr => ∃ (k : Nat) (c : Array Sh), sa = .int .i64 ((k * 20 : Nat) : Int) ∧ sb = .int .i64 ((k * 20 + 20 : Nat) : Int) ∧ k * 20 ≤ n ∧ n + 1 - k * 20 ≤ kx ∧ Aside (SWK enc3 3 w blk 0 c wr) ∧ Aside (P1 d c k n))
  case atStart =>
    refine ⟨0, d, by go_num, by go_num, by omega, by omega, S0, ⟨permIn_refl _ _ _, ?_, ?_, ?_⟩⟩
    · intro x y _ _ h1 h2 h3
      exact HR.out x y (Nat.zero_le _) (by omega) h2
    · intro x y _ h1 h2
      omega
    · intro x y h1 h2 h3
      exact HR.out x y (Nat.zero_le _) h2 h3
  case round =>
    clear S0
    obtain ⟨k, c, rfl, rfl, hkn, hkx, S1, I1⟩ := hrel
    have hcs : c.size = n := by rw [I1.out.perm.1, hn]
    obtain ⟨a, ha⟩ : ∃ a, k * 20 = a := ⟨_, rfl⟩
    have EA : Aside (k * 20 = a) := ha
    rw [ha] at hkn hkx ⊢
    by_cases hlt : a + 20 ≤ n
    · obtain ⟨b, hb⟩ : ∃ b, a + 20 = b := ⟨_, rfl⟩
      have EB : Aside (a + 20 = b) := hb
      rw [hb] at hlt ⊢
      have hI : (b : Int) ≤ (n : Int) := by omega
      have C1 := hide (A1.out a b c wr hcs S1.out (by have := EB.out; omega) hlt (fun x y h1 h2 h3 => I1.out.r x y (by have := EA.out; omega) h2 (by omega)))
      clear ha hb
      go_wp2_with fail
      refine (unhide C1).mono ?_
      rintro e w2 ⟨rfl, c2, s2, p2, q2⟩
      have S2 : Aside _ := s2
      have PQ : Aside (PermIn a b c c2 ∧ Srt c2 a b) := ⟨p2, q2⟩
      clear s2 p2 q2
      go_wp2
      go_roundg (n + 1 - b)
      case measure => have := EB.out; omega
      case rel =>
        have ea := EA.out
        have eb := EB.out
        obtain ⟨g1, g2, g3, g4⟩ := I1.out.step (b := b) (c' := c2) (by omega) (by omega) hlt (by omega) (by rw [ea]; exact PQ.out.1) (by rw [ea]; exact PQ.out.2)
        have e1 : (k + 1) * 20 = b := by omega
        exact ⟨k + 1, c2, by rw [e1], by rw [e1]; go_num, by omega, by omega, S2, g1, g2, by rw [e1]; exact g3, by rw [e1]; exact g4⟩
    · have hI : ¬ ((a + 20 : Nat) : Int) ≤ (n : Int) := by omega
      have hI' : ¬ (a : Int) + 20 ≤ (n : Int) := by omega
      have C1 := hide (A1.out a n c wr hcs S1.out hkn (by omega) (fun x y h1 h2 h3 => I1.out.r x y (by have := EA.out; omega) h2 h3))
      clear ha
      go_wp2_with fail
      refine (unhide C1).mono ?_
      rintro e w2 ⟨rfl, c2, s2, p2, q2⟩
      have S2 : Aside _ := s2
      have I2 : Aside (PermIn 0 n d c2 ∧ Zp 20 c2 0 n ∧ Sp 20 c2 0 n) := (by
        have ea := EA.out
        obtain ⟨g1, g2, g3, g4⟩ := I1.out.step (b := n) (c' := c2) (by omega) (by omega) (Nat.le_refl _) (by omega) (by rw [ea]; exact p2) (by rw [ea]; exact q2)
        exact ⟨g1, g2, g3⟩)
      clear s2 p2 q2 I1 S1 C1 A1
      go_wp2
      go_loopg [6] (n - 20) (fun kx ss wr => ∃ (bs : Nat) (c : Array Sh), ss = .int .i64 (bs : Int) ∧ 20 ≤ bs ∧ bs ≤ 2000 ∧ n - bs ≤ kx ∧ Aside (SWK enc3 3 w blk 0 c wr) ∧ Aside (PermIn 0 n d c ∧ Zp bs c 0 n ∧ Sp bs c 0 n))
      case atStart => exact ⟨20, c2, by go_num, by omega, by omega, Nat.le_refl _, S2, I2⟩
      case round =>
        clear S2 I2
        obtain ⟨bs, c, rfl, hb1, hb2, hkx2, S3, I3⟩ := hrel
        by_cases hbn : bs < n
        · have hJ : (bs : Int) < (n : Int) := by omega
          obtain ⟨D, hD⟩ : ∃ D : Nat, 2 * (bs : Int) = (D : Int) := ⟨2 * bs, by omega⟩
          have ED : Aside (2 * bs = D) := (by omega : 2 * bs = D)
          have hD2 : D ≤ 4000 := by omega
          go_wp2
          go_loopg [7, 8] (n + 1) (fun ky sa sb wr => ∃ (k a : Nat) (c : Array Sh), sa = .int .i64 (a : Int) ∧ sb = .int .i64 ((a : Int) + (D : Int)) ∧ a ≤ n ∧ n + 1 - a ≤ ky ∧ Aside (k * (2 * bs) = a) ∧ Aside (SWK enc3 3 w blk 0 c wr) ∧ Aside (P2 d c bs k n))
          case atStart =>
            refine ⟨0, 0, c, by go_num, by go_num, by omega, by omega, Nat.zero_mul _, S3, ⟨I3.out.1, zp_double I3.out.2.1, ?_, ?_, ?_⟩⟩
            · rw [Nat.zero_mul]; exact I3.out.2.1
            · intro x y _ _ h; omega
            · rw [Nat.zero_mul]; exact I3.out.2.2
          case round =>
            clear S3 I3
            obtain ⟨k, a, c, rfl, rfl, han, hky, EA2, S4, I4⟩ := hrel
            have hcs : c.size = n := by rw [I4.out.perm.1, hn]
            obtain ⟨b, hb⟩ : ∃ b : Nat, (a : Int) + (D : Int) = (b : Int) := ⟨a + D, by omega⟩
            have EB : Aside (a + D = b) := (by omega : a + D = b)
            obtain ⟨m, hm⟩ : ∃ m : Nat, (a : Int) + (bs : Int) = (m : Int) := ⟨a + bs, by omega⟩
            have EM : Aside (a + bs = m) := (by omega : a + bs = m)
            have h0 : 0 < bs := by omega
            have r1 : Aside (m ≤ n → Srt c a m) := fun h => by rw [← EM.out]; rw [← EA2.out]; exact run1 h0 rfl (by have := EM.out; have := EA2.out; omega) I4.out.s1
            have r2 : Aside (∀ e, e ≤ b → e ≤ n → Srt c m e) := fun e h1 h2 => by rw [← EM.out]; rw [← EA2.out]; exact run2 h0 rfl (by have := EB.out; have := ED.out; have := EA2.out; omega) h2 I4.out.s1
            have r3 : Aside (∀ e, e ≤ b → e ≤ n → Crs c a m e) := fun e h1 h2 => by rw [← EM.out]; rw [← EA2.out]; exact runC h0 rfl (by have := EB.out; have := ED.out; have := EA2.out; omega) h2 I4.out.z1
            rw [hb]
            by_cases hbn2 : b ≤ n
            · have hK : (b : Int) ≤ (n : Int) := by omega
              have C1 := hide (A2.out a m b c wr hcs S4.out (by omega) (by have := EM.out; have := EB.out; have := ED.out; omega) (by omega) (r1.out (by have := EM.out; have := EB.out; have := ED.out; omega)) (r2.out b (Nat.le_refl _) hbn2) (r3.out b (Nat.le_refl _) hbn2))
              go_wp2_with fail
              refine (unhide C1).mono ?_
              rintro e w5 ⟨rfl, c5, s5, p5, q5⟩
              have S5 : Aside _ := s5
              have PQ : Aside (PermIn a b c c5 ∧ Srt c5 a b) := ⟨p5, q5⟩
              clear s5 p5 q5 C1
              go_wp2
              go_roundg (n + 1 - b)
              case measure => have := EB.out; have := ED.out; omega
              case rel =>
                have ea := EA2.out
                have eb := EB.out
                have ed := ED.out
                have e1 : (k + 1) * (2 * bs) = b := by rw [Nat.succ_mul]; omega
                obtain ⟨g1, g2, g3, g4, g5⟩ := I4.out.step (b := b) (c' := c5) h0 (Nat.le_of_eq e1.symm) (by omega) hbn2 (by omega) (by rw [ea]; exact PQ.out.1) (by rw [ea]; exact PQ.out.2)
                exact ⟨k + 1, b, c5, rfl, by go_num, by omega, by omega, e1, S5, g1, g2, by rw [e1]; exact g3, by rw [e1]; exact g4, by rw [e1]; exact g5⟩
            · have hK : ¬ (b : Int) ≤ (n : Int) := by omega
              by_cases hmn : m < n
              · have hL : (m : Int) < (n : Int) := by omega
                have C1 := hide (A2.out a m n c wr hcs S4.out (by omega) hmn (by omega) (r1.out (by omega)) (r2.out n (by omega) (Nat.le_refl _)) (r3.out n (by omega) (Nat.le_refl _)))
                go_wp2_with fail
                refine (unhide C1).mono ?_
                rintro e w5 ⟨rfl, c5, s5, p5, q5⟩
                have S5 : Aside _ := s5
                have I5 : Aside (PermIn 0 n d c5 ∧ Zp (2 * bs) c5 0 n ∧ Sp (2 * bs) c5 0 n) := (by
                  have ea := EA2.out
                  have eb := EB.out
                  have ed := ED.out
                  obtain ⟨g1, g2, g3, g4, g5⟩ := I4.out.step (b := n) (c' := c5) h0 (by rw [Nat.succ_mul]; omega) (by omega) (Nat.le_refl _) (by omega) (by rw [ea]; exact p5) (by rw [ea]; exact q5)
                  exact ⟨g1, g2, g4⟩)
                clear s5 p5 q5 C1
                go_wp2
                go_roundg (n - D)
                case measure => have := ED.out; omega
                case rel =>
                  have ed := ED.out
                  rw [ed] at I5
                  exact ⟨D, c5, by go_num, by omega, by omega, Nat.le_refl _, S5, I5⟩
              · have hL : ¬ (m : Int) < (n : Int) := by omega
                have I5 : Aside (PermIn 0 n d c ∧ Zp (2 * bs) c 0 n ∧ Sp (2 * bs) c 0 n) := ⟨I4.out.perm, I4.out.z2, sp_rest h0 rfl (by have := EA2.out; have := EM.out; omega) I4.out.s2 I4.out.s1⟩
                go_wp2
                go_roundg (n - D)
                case measure => have := ED.out; omega
                case rel =>
                  have ed := ED.out
                  rw [ed] at I5
                  exact ⟨D, c, by go_num, by omega, by omega, Nat.le_refl _, S4, I5⟩
        · have hJ : ¬ (bs : Int) < (n : Int) := by omega
          go_wp2
          go_end0
          exact ⟨rfl, c, S3.out, I3.out.1, sp_end (by omega) I3.out.2.2⟩
end Go.Proofs.Ytddpladmkmpoaaa
