import Derived.Test.YtddpladmkmpoaaaStbB
namespace Go.Proofs.Ytddpladmkmpoaaa
open Go.ChangeShapes Go.WideShapes Go.ChangeAt Go.RowKit Go.Sort Go.Lib Go.Shelf
set_option linter.unusedVariables false
attribute [local go_sem ↓] ld50_is st50_is
/-- the places rise -/
def Ris (d : Array Sh) (a b : Nat) : Prop := ∀ x y, a ≤ x → x < y → y < b → d[x]!.p < d[y]!.p
/-- behind the runs of the first i: sorted, the others as they were -/
structure InsO (d c : Array Sh) (a i : Nat) : Prop where
  perm : PermIn a i d c
  srt : Srt c a i
theorem InsO.crs {d c : Array Sh} {a b i : Nat} (h : InsO d c a i) (hr : Ris d a b) (hi : i < b) (hb : b ≤ d.size) : ∀ x, a ≤ x → x < i → c[x]!.p < c[i]!.p := by
  intro x h1 h2
  rw [h.perm.2.1 i (.inr (Nat.le_refl _))]
  exact permIn_all d c a i (fun z => z.p < d[i]!.p) (by omega) h.perm (fun k k1 k2 => hr k i k1 k2 hi) x h1 h2
theorem InsO.next {d c : Array Sh} {a i j : Nat} (h : InsO d c a i) (hai : a ≤ i) (hi : i < d.size) (F : Lst c a i j j) : InsO d (mvD c i (i - j)) a (i + 1) := by
  have hs : c.size = d.size := h.perm.1
  have := F.ai
  exact ⟨permIn_trans _ _ _ _ _ (permIn_mono _ _ _ _ _ _ (Nat.le_refl _) (by omega) (by omega) h.perm) (mvD_perm c i (i - j) a (i + 1) (by omega) (by omega) (by omega) _ (Nat.le_refl _)), lst_done F h.srt (by omega)⟩
set_option maxHeartbeats 4000000 in
set_option maxRecDepth 1000000 in
/-- slices.insertionSortCmpFunc -/
theorem insert_any (blk cap a b : Nat) (d0 d : Array Sh) (w0 w : World) (R : RowK enc3 3 w0 blk 0 d0) (hs : d0.size = d.size) (S : SWK enc3 3 w0 blk 0 d w) (hab : a ≤ b) (hb : b ≤ d.size) (hsz : d.size ≤ 1000) (hr : Ris d a b) :
    Calls Try.prog 60 #[.slice (some ⟨blk, 0, none⟩) d.size cap, .int .i64 a, .int .i64 b, .func (.func 47) #[] #[]] w fun e w' => e = .returned (.tuple #[]) ∧ ∃ c : Array Sh, SWK enc3 3 w0 blk 0 c w' ∧ PermIn a b d c ∧ Srt c a b := by
  have S0 : Aside (SWK enc3 3 w0 blk 0 d w) := S
  have mixed : Try.prog.follows .mixedOrders = true := by kernel_rfl
  have HR : Aside (Ris d a b) := hr
  clear S hr
  go_enter Try.func60, Try.ntmps60
  go_wp2
  go_loopg [8] (b - a) (fun g1 vi wr => ∃ (i : Nat) (c : Array Sh), vi = .int .i64 i ∧ a < i ∧ b + 1 - i ≤ g1 + 1 ∧ (i ≤ b ∨ i = a + 1 ∧ c = d) ∧ Aside (SWK enc3 3 w0 blk 0 c wr) ∧ Aside (InsO d c a i))
  case atStart =>
    refine ⟨a + 1, d, by go_num, by omega, by omega, .inr ⟨rfl, rfl⟩, S0, permIn_refl _ _ _, ?_⟩
    intro x y h1 h2 h3
    omega
  case round =>
    clear S0
    obtain ⟨i, c, rfl, hai, hg1, hib, S0, O1⟩ := hrel
    have hcs : c.size = d.size := O1.out.perm.1
    by_cases hlt : i < b
    · have hltz : (i : Int) < (b : Int) := by omega
      have X1 : Aside (∀ x, a ≤ x → x < i → c[x]!.p < c[i]!.p) := O1.out.crs HR.out hlt hb
      go_wp2
      go_loopg [9] i (fun g2 vj wr => ∃ (t : Nat), vj = .int .i64 ((i : Int) - (t : Int)) ∧ a + t ≤ i ∧ i - t ≤ g2 ∧ Aside (SWK enc3 3 w0 blk 0 (mvD c i t) wr) ∧ Aside (∀ x, i - t ≤ x → x < i → lts c[i]! c[x]!))
      case atStart => exact ⟨0, by go_num, by omega, by omega, S0, fun x h1 h2 => by omega⟩
      case round =>
        clear S0
        obtain ⟨t, rfl, hti, hg2, S1, F1⟩ := hrel
        obtain ⟨j, hj⟩ : ∃ j : Nat, (i : Int) - (t : Int) = (j : Int) := ⟨i - t, by omega⟩
        have EJ : Aside (j = i - t) := (by omega : j = i - t)
        rw [hj]
        have hsi := mvD_size c i t
        have G1 : Aside (∀ x, (mvD c i t)[x]! = if i - t < x ∧ x ≤ i then c[x - 1]! else if x = i - t then c[i]! else c[x]!) := mvD_get c i t (by omega) (by omega) t (Nat.le_refl _)
        have DONE : Aside (Lst c a i j j → SWK enc3 3 w0 blk 0 (mvD c i (i - j)) wr → True) := fun _ _ => trivial
        clear DONE
        by_cases hja : a < j
        · have hjaz : (a : Int) < (j : Int) := by omega
          obtain ⟨y, hy⟩ : ∃ y : Nat, (j : Int) - 1 = (y : Int) := ⟨j - 1, by omega⟩
          have EY : Aside (y = j - 1) := (by omega : y = j - 1)
          have e1 : (mvD c i t)[j]! = c[i]! := by rw [G1.out, if_neg (by omega), if_pos EJ.out]
          have e2 : (mvD c i t)[y]! = c[y]! := by rw [G1.out, if_neg (by omega), if_neg (by have := EJ.out; omega)]
          have xs : j < (mvD c i t).size := by omega
          have yz : y < (mvD c i t).size := by omega
          have px : (0 : Int) ≤ (j : Int) := by omega
          have bx : (j : Int) < (d.size : Int) := by omega
          have py : (0 : Int) ≤ (y : Int) := by omega
          have bY : (y : Int) < (d.size : Int) := by omega
          have rx : IntKind.i64.wrap (j : Int) = (j : Int) := by rw [IntKind.wrap_i64]; omega
          have ry : IntKind.i64.wrap (y : Int) = (y : Int) := by rw [IntKind.wrap_i64]; omega
          have l1 := sw_lds S1.out R (by omega) xs
          have l2 := sw_lds S1.out R (by omega) yz
          rw [e1] at l1
          rw [e2] at l2
          have hcg := fun n os => sw_cmp (W := wr) c[i]! c[y]! n os
          have HCF : Aside (cfS c[i]! c[y]! < 0 ↔ c[y]!.r < c[i]!.r) := cfS_lt c[i]! c[y]!
          generalize cfS c[i]! c[y]! = cv at hcg HCF
          generalize enc3 c[i]! = cX at l1 l2 hcg
          generalize enc3 c[y]! = cY at l1 l2 hcg
          have GG : Aside (∀ (Q : Prop), (Srt c a i → (∀ x, a ≤ x → x < i → c[x]!.p < c[i]!.p) → Q) → Q) := fun Q h => h O1.out.srt X1.out
          have E12 : Aside ((mvD c i t)[j]! = c[i]! ∧ (mvD c i t)[y]! = c[y]!) := ⟨e1, e2⟩
          clear xs yz e1 e2
          by_cases hv : cv < 0
          · go_wp2_with fail
            go_quiet_grown (first | (go_at_call 47; refine Calls.grown_of (hcg _ _)))
            have SG : Aside (SWK enc3 3 w0 blk 0 (mvD c i t) (grow (wr.drewN nq) osq)) := S1.out.grown nq osq
            clear l1 l2 hcg S1
            go_wp2_with fail
            generalize grow (wr.drewN nq) osq = wr2 at SG ⊢
            have xs : j < (mvD c i t).size := by omega
            have ys : y < (mvD c i t).size := by omega
            have S2 : Aside (SWK enc3 3 w0 blk 0 (swp (mvD c i t) j y) ((wr2.drew.setCells blk (j * 3) (enc3 (mvD c i t)[y]!)).setCells blk (y * 3) (enc3 (mvD c i t)[j]!))) := sw_swap SG.out R xs ys
            have l1 := sw_ld SG.out.drew R (by omega) xs
            have l2 := sw_ld SG.out.drew R (by omega) ys
            have s1 := sw_st1 SG.out.drew R (by omega) xs (mvD c i t)[y]!
            have s2 := sw_st2 SG.out.drew R (by omega) xs ys (mvD c i t)[y]! (mvD c i t)[j]!
            generalize enc3 (mvD c i t)[j]! = dX at S2 l1 l2 s1 s2
            generalize enc3 (mvD c i t)[y]! = dY at S2 l1 l2 s1 s2
            clear SG xs ys hsi
            go_big_region_o
            clear l1 l2 s1 s2
            generalize (wr2.drew.setCells blk (j * 3) dY).setCells blk (y * 3) dX = w3 at S2 ⊢
            go_wp2
            go_roundg (i - (t + 1))
            case measure => omega
            case rel =>
              rw [EY.out, EJ.out] at S2
              refine ⟨t + 1, by go_num, by omega, Nat.le_refl _, S2, ?_⟩
              intro x h1 h2
              have hyy : y = i - t - 1 := by have := EY.out; have := EJ.out; omega
              by_cases e : x = y
              · subst e
                exact .inl (HCF.out.1 hv)
              · exact F1.out x (by omega) h2
          · go_wp2_with fail
            go_quiet_grown (first | (go_at_call 47; refine Calls.grown_of (hcg _ _)))
            have SG : Aside (SWK enc3 3 w0 blk 0 (mvD c i t) (grow (wr.drewN nq) osq)) := S1.out.grown nq osq
            clear l1 l2 hcg S1
            go_wp2
            go_roundg (b - (i + 1))
            case measure => omega
            case rel =>
              have F : Lst c a i j j := by
                refine ⟨by omega, Nat.le_refl _, by have := EJ.out; omega, fun x k1 k2 => ?_, fun x k1 k2 => F1.out x (by have := EJ.out; omega) k2⟩
                have hl : lts c[y]! c[i]! := by
                  have h1 : ¬ c[y]!.r < c[i]!.r := fun hq => by have := HCF.out.2 hq; omega
                  have h2 := X1.out y (by have := EY.out; omega) (by have := EY.out; omega)
                  unfold lts
                  omega
                by_cases e : x = y
                · subst e; exact hl
                · exact lts_trans (O1.out.srt x y k1 (by have := EY.out; omega) (by have := EY.out; omega)) hl
              have N1 := O1.out.next (by omega) (by omega) F
              have et : i - j = t := by have := EJ.out; omega
              rw [et] at N1
              exact ⟨i + 1, _, by go_num, by omega, by omega, .inl (by omega), SG, N1⟩
        · have hjaz : decide ((j : Int) > (a : Int)) = false := decide_eq_false (by omega)
          have hjaz' : ¬ (a : Int) < (j : Int) := by omega
          have SG : Aside (SWK enc3 3 w0 blk 0 (mvD c i t) wr.drew) := S1.out.drew
          clear S1
          go_wp2_with fail
          go_big_region_o
          all_goals go_wp2
          go_roundg (b - (i + 1))
          case measure => omega
          case rel =>
            have F : Lst c a i j j := ⟨by have := EJ.out; omega, Nat.le_refl _, by have := EJ.out; omega, fun x k1 k2 => by have := EJ.out; omega, fun x k1 k2 => F1.out x (by have := EJ.out; omega) k2⟩
            have N1 := O1.out.next (by omega) (by omega) F
            have et : i - j = t := by have := EJ.out; omega
            rw [et] at N1
            exact ⟨i + 1, _, by go_num, by omega, by omega, .inl (by omega), SG, N1⟩
    · have hltz : ¬ (i : Int) < (b : Int) := by omega
      go_wp2
      go_end0
      by_cases h : i = b
      · subst h
        exact ⟨rfl, c, S0.out, O1.out.perm, O1.out.srt⟩
      · have hcd : c = d := by
          rcases hib with h' | h'
          · omega
          · exact h'.2
        subst hcd
        exact ⟨rfl, c, S0.out, permIn_refl _ _ _, fun x y h1 h2 h3 => by omega⟩
end Go.Proofs.Ytddpladmkmpoaaa
