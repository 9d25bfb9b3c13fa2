import Derived.Test.YtildpgfhahmgmaaDoorStB
import Derived.Test.YtildpgfhahmgmaaDoorDlD
import Derived.Test.YtildpgfhahmgmaaDoorDlE
import Derived.Test.YtildpgfhahmgmaaDoorFiA
import Derived.Test.YtildpgfhahmgmaaDoorE39
/- AgedSteps (3): the walk. -/
namespace Go.Proofs.YtildpgfhahmgmaaDoor
open Go Go.Shelf Go.ChangeShapes Go.WideShapes Go.ChangeAt Go.RowKit Go.Maps
set_option linter.unusedVariables false
/-- the view, and the lists beside it -/
structure Sv (W w : World) (d : Nat) (pc pa : Option Addr) (C : List Cl) (A : List Al) (g : Int) : Prop where
  ex : ∃ S, Vw w d S C A g ∧ ∀ b, S b → d ≤ b
  bel : Below W.heap.size W w
  ge : W.heap.size ≤ d
  c : ∀ k (hk : k < C.length), ∃ b off, pc = some ⟨b, off, none⟩ ∧ b < d ∧ w.rangeAt b (off + k * 5) (kC.enc C[k])
  a : ∀ k (hk : k < A.length), ∃ b off, pa = some ⟨b, off, none⟩ ∧ b < d ∧ w.rangeAt b (off + k * 4) (kA.enc A[k])
  lt : d ≤ w.heap.size
  nc : pc = none → C = []
  na : pa = none → A = []
theorem Sv.lies {W w : World} {d : Nat} {pc pa : Option Addr} {C : List Cl} {A : List Al} {g : Int} (h : Sv W w d pc pa C A g) : Lies kC w pc C ∧ Lies kA w pa A :=
  ⟨⟨h.nc, fun k hk => by obtain ⟨b, off, e, hb, hr⟩ := h.c k hk; exact ⟨b, off, e, Nat.lt_of_lt_of_le hb h.lt, hr⟩⟩, ⟨h.na, fun k hk => by obtain ⟨b, off, e, hb, hr⟩ := h.a k hk; exact ⟨b, off, e, Nat.lt_of_lt_of_le hb h.lt, hr⟩⟩⟩
theorem Sv.keep {W w w' : World} {d : Nat} {pc pa : Option Addr} {C : List Cl} {A : List Al} {g g' : Int} (h : Sv W w d pc pa C A g) (hv : ∃ S, Vw w' d S C A g' ∧ ∀ b, S b → d ≤ b) (hb : Below d w w') (hs : w.heap.size ≤ w'.heap.size) : Sv W w' d pc pa C A g' := by
  refine ⟨hv, h.bel.trans (hb.mono h.ge), h.ge, fun k hk => ?_, fun k hk => ?_, Nat.le_trans h.lt hs, h.nc, h.na⟩
  · obtain ⟨b, off, e, hl, hr⟩ := h.c k hk
    exact ⟨b, off, e, hl, fun j u hu => (hb.cell (p := ⟨b, off + k * 5 + j, none⟩) hl).trans (hr j u hu)⟩
  · obtain ⟨b, off, e, hl, hr⟩ := h.a k hk
    exact ⟨b, off, e, hl, fun j u hu => (hb.cell (p := ⟨b, off + k * 4 + j, none⟩) hl).trans (hr j u hu)⟩
theorem Sv.below {W w w' : World} {d : Nat} {pc pa : Option Addr} {C : List Cl} {A : List Al} {g : Int} (h : Sv W w d pc pa C A g) (hb : Below w.heap.size w w') : Sv W w' d pc pa C A g := by
  obtain ⟨S, h1, h2⟩ := h.ex
  exact h.keep ⟨S, h1.below hb, h2⟩ (hb.mono h.lt) hb.size
theorem Sv.next {W w w' : World} {d : Nat} {S : Nat → Prop} {pc pa : Option Addr} {C : List Cl} {A : List Al} {g g' : Int} (h : Sv W w d pc pa C A g) (hS : ∀ b, S b → d ≤ b) (hn : VwNext w w' d S C A g') : Sv W w' d pc pa C A g' := by
  obtain ⟨S', h1, h2, h3⟩ := hn
  refine h.keep ⟨S', h1, fun b hb => ?_⟩ (h2.below h.lt (fun k hk hs => by have := hS k hs; omega)) h2.size
  rcases h3 b hb with h4 | h4
  · exact hS b h4
  · exact Nat.le_trans h.lt h4
end Go.Proofs.YtildpgfhahmgmaaDoor
/- AgedSteps (3): the walk. -/
namespace Go.Proofs.YtildpgfhahmgmaaDoor
open Go Go.Shelf Go.ChangeShapes Go.WideShapes Go.ChangeAt Go.RowKit Go.Maps
set_option linter.unusedVariables false
theorem DlsIn.below {W w : World} {p : Option Addr} {L : List Dl} (h : DlsIn W p L) (hb : Below W.heap.size W w) : DlsIn w p L := fun k hk => by
  obtain ⟨b, off, e, hl, hr⟩ := h k hk
  exact ⟨b, off, e, Nat.lt_of_lt_of_le hl hb.size, fun j u hu => (hb.cell (p := ⟨b, off + k * 5 + j, none⟩) hl).trans (hr j u hu)⟩
theorem PtsIn.below {W w : World} {d : Dl} (h : PtsIn W d) (hb : Below W.heap.size W w) : PtsIn w d := ⟨h.1, fun k hk => by
  obtain ⟨b, off, e, hl, hr⟩ := h.2 k hk
  exact ⟨b, off, e, Nat.lt_of_lt_of_le hl hb.size, fun j u hu => (hb.cell (p := ⟨b, off + k * 2 + j, none⟩) hl).trans (hr j u hu)⟩⟩
theorem clP_mem {L : List Dl} {n : Nat} {c : Cl} (h : c ∈ clP L n) : (1 ≤ c.amt ∧ c.amt ≤ 1000000000) ∧ (1 ≤ c.day ∧ c.day ≤ 3651659) := by
  unfold clP at h
  obtain ⟨i, _, rfl⟩ := List.mem_map.1 h
  exact ⟨amount_bounds _, into_bounds _ (by omega)⟩
/-- the lists that claims and allots made -/
structure Mkd (W w : World) (pc pa : Option Addr) (n m : Nat) (C : List Cl) (A : List Al) : Prop where
  bel : Below W.heap.size W w
  c : Lies kC w pc C
  a : Lies kA w pa A
  cn : C.length = n
  am : A.length = m
  good : Good C A 0
  ck : ∀ c ∈ C, c.key.size ≤ maxLen ∧ c.acc.size ≤ maxLen
  ai : ∀ a ∈ A, a.inv.size ≤ maxLen
  c9 : ∀ c ∈ C, (1 ≤ c.amt ∧ c.amt ≤ 1000000000) ∧ (1 ≤ c.day ∧ c.day ≤ 3651659)
  n5 : n ≤ 50
  ux : ∃ L : List Dl, n ≤ L.length ∧ C = clP L n ∧ A = alP C L n
theorem Mkd.of {W w1 w2 : World} {p1 p2 : Option Addr} {c1 c2 N m : Nat} {L : List Dl} (hNL : N ≤ L.length) (hN5 : N ≤ 50) (ha : ∀ d ∈ L, d.acc.size ≤ maxLen) (h1 : Rw kC W w1 (.slice p1 N c1) N (clP L N)) (h2 : Rw kA w1 w2 (.slice p2 m c2) m (alP (clP L N) L N)) : Mkd W w2 p1 p2 N m (clP L N) (alP (clP L N) L N) := by
  obtain ⟨g1, g2, g3⟩ := deals_good hNL hN5 ha
  exact ⟨h1.bel.trans (h2.bel.mono h1.bel.size), (own_lies kC_ok h1.len h1.row).below h2.bel, own_lies kA_ok h2.len h2.row, h1.len, h2.len, g1, g2, g3, fun c hc => clP_mem hc, hN5, L, hNL, rfl, rfl⟩
theorem Sv.of {W w2 w3 : World} {pc pa : Option Addr} {n m : Nat} {C : List Cl} {A : List Al} {g : Int} (h : Mkd W w2 pc pa n m C A) (hM : Made w2 w3 C A g) : Sv W w3 w2.heap.size pc pa C A g := by
  refine ⟨hM.vw, h.bel.trans (hM.bel.mono h.bel.size), h.bel.size, fun k hk => ?_, fun k hk => ?_, hM.bel.size, h.c.1, h.a.1⟩
  · obtain ⟨b, off, e, hl, hr⟩ := h.c.2 k hk
    exact ⟨b, off, e, hl, fun j u hu => (hM.bel.cell (p := ⟨b, off + k * 5 + j, none⟩) hl).trans (hr j u hu)⟩
  · obtain ⟨b, off, e, hl, hr⟩ := h.a.2 k hk
    exact ⟨b, off, e, hl, fun j u hu => (hM.bel.cell (p := ⟨b, off + k * 4 + j, none⟩) hl).trans (hr j u hu)⟩
theorem Mkd.taken {W w : World} {pc pa : Option Addr} {n m cc ca : Nat} {C : List Cl} {A : List Al} (h : Mkd W w pc pa n m C A) (hS : Stp W) :
    Calls Tryd.prog 10 #[.slice pc n cc, .slice pa m ca, .int .i64 0] w fun e w' => e = .returned (.tuple #[ptr w.heap.size, .bool true]) ∧ Sv W w' w.heap.size pc pa C A 0 := by
  refine Calls.mono (taken_any (t := 0) (cc := cc) (ca := ca) (by omega) h.good h.ck h.ai (hS.below h.bel) h.cn h.cn (fun j h1 h2 => ?_) h.am h.c h.a) ?_
  · have e : (j + 0) % n = j := by rw [Nat.add_zero]; exact Nat.mod_eq_of_lt (by rw [← h.cn]; exact h1)
    simp only [e]
  · rintro e w' ⟨rfl, hm⟩
    exact ⟨rfl, Sv.of h hm⟩
end Go.Proofs.YtildpgfhahmgmaaDoor
/- AgedSteps (3): the walk. -/
namespace Go.Proofs.YtildpgfhahmgmaaDoor
open Go Go.Shelf Go.ChangeShapes Go.WideShapes Go.ChangeAt Go.RowKit Go.Maps
set_option linter.unusedVariables false
theorem adv_ok {g t : Int} (h1 : 1 ≤ t) (h2 : t ≤ 3652059) (h3 : 1 + g ≤ t) : advS g t = 0 := by
  unfold advS
  rw [dayB_of h1 h2, if_neg (by simp), if_neg (by omega)]
theorem Sv.adv {W w : World} {d : Nat} {pc pa : Option Addr} {C : List Cl} {A : List Al} {g t : Int} (h : Sv W w d pc pa C A g) (hS : Stp W) (h1 : 1 ≤ t) (h2 : t ≤ 3652059) (h3 : 1 + g ≤ t) :
    Calls Tryd.prog 14 #[ptr d, .int .i64 t] w fun e w' => e = .returned (.int .i64 0) ∧ Sv W w' d pc pa C A (t - 1) := by
  obtain ⟨S, hv, hs⟩ := h.ex
  refine (advance_any hv (hS.below h.bel) t).mono ?_
  rintro e w' ⟨rfl, hA⟩
  have e0 := adv_ok h1 h2 h3
  exact ⟨by rw [e0], h.next hs (hA.2 e0)⟩
theorem Sv.now {W w : World} {d : Nat} {pc pa : Option Addr} {C : List Cl} {A : List Al} {g : Int} (h : Sv W w d pc pa C A g) {s : ByteArray} (hs : s.size ≤ maxLen) :
    Calls Tryd.prog 16 #[ptr d, .string s] w fun e w' => e = .returned (ag5 (ageS C A s.data.toList (1 + g))) ∧ Sv W w' d pc pa C A g := by
  obtain ⟨S, hv, _⟩ := h.ex
  refine (now_vw hv hs).mono ?_
  rintro e w' ⟨rfl, hb⟩
  exact ⟨rfl, h.below hb⟩
theorem Sv.at {W w : World} {d : Nat} {pc pa : Option Addr} {C : List Cl} {A : List Al} {g : Int} (h : Sv W w d pc pa C A g) (hS : Stp W) {s : ByteArray} (hs : s.size ≤ maxLen) (t : Int) :
    Calls Tryd.prog 17 #[ptr d, .string s, .int .i64 t] w fun e w' => e = .returned (ag5 (atS C A s.data.toList t)) ∧ Sv W w' d pc pa C A g := by
  obtain ⟨S, hv, _⟩ := h.ex
  refine (at_vw hv (hS.below h.bel) hs t).mono ?_
  rintro e w' ⟨rfl, hb⟩
  exact ⟨rfl, h.below hb⟩
theorem Sv.asOf {W w : World} {d : Nat} {pc pa : Option Addr} {C : List Cl} {A : List Al} {g : Int} (h : Sv W w d pc pa C A g) : Calls Tryd.prog 15 #[ptr d] w fun e w' => e = .returned (.int .i64 (1 + g)) ∧ w' = w := by
  obtain ⟨S, hv, _⟩ := h.ex
  exact asOf_vw hv
theorem Sv.steps {W w : World} {d : Nat} {pc pa : Option Addr} {n m cc ca : Nat} {C : List Cl} {A : List Al} {g : Int} (h : Sv W w d pc pa C A g) (hS : Stp W) (hn : C.length = n) (hm : A.length = m) (hc9 : ∀ c ∈ C, c.amt ≤ 1000000000) {s : ByteArray} (hs : s.size ≤ maxLen) {t : Int} (ht : 1 ≤ t ∧ t ≤ 3652058) :
    Calls Tryd.prog 18 #[ptr d, .slice pc n cc, .slice pa m ca, .string s, .int .i64 t] w fun e w' => e = .returned (.bool true) ∧ Sv W w' d pc pa C A g := by
  obtain ⟨S, hv, _⟩ := h.ex
  refine (steps_any hv (hS.below h.bel) hn hm h.lies.1 h.lies.2 hc9 hs ht).mono ?_
  rintro e w' ⟨rfl, hb⟩
  exact ⟨rfl, h.below hb⟩
theorem Sv.first {W w : World} {d : Nat} {pc pa : Option Addr} {C : List Cl} {A : List Al} {g : Int} (h : Sv W w d pc pa C A g) (hS : Stp W) :
    Calls Tryd.prog 11 #[] w fun e w' => e = .returned (.bool true) ∧ Sv W w' d pc pa C A g := by
  refine (first_any (hS.below h.bel)).mono ?_
  rintro e w' ⟨rfl, hb⟩
  exact ⟨rfl, h.below hb⟩
set_option maxRecDepth 100000 in
set_option maxHeartbeats 16000000 in
theorem walk_AgedSteps {W : World} (hS : Stp W) {pu : Option Addr} {K cu : Nat} {L : List Dl} (hK : L.length = K) (hm : K ≤ maxLen) (hL : DlsIn W pu L) (ha : ∀ d ∈ L, d.acc.size ≤ maxLen) (hP : ∀ d ∈ L, PtsIn W d ∧ d.np ≤ maxLen) (f q : Int) :
    Calls Tryd.prog 3 #[.slice pu K cu, .int .i64 f, .int .i64 q] W fun e w' => e = .returned (.bool true) ∧ Below W.heap.size W w' := by
  have dC := hide (claims_any (cu := cu) hK hL hm)
  have dI := hide into_any; have dM := hide num_any
  have HS := hide hS; have HL := hide hL; have HK := hide hK; have HM := hide hm; have HA := hide ha; have HP := hide hP
  have hst := arr39; have heg := eg39; have heq := eq39_same
  obtain ⟨N, hN⟩ : ∃ N, N = min K 50 := ⟨_, rfl⟩
  rw [← hN] at dC
  have hNK : N ≤ K := by omega
  have hN5 : N ≤ 50 := by omega
  obtain ⟨F, hF⟩ : ∃ F, F = intoS f 1 3651859 := ⟨_, rfl⟩
  have hFb := into_bounds f (lo := 1) (hi := 3651859) (by omega)
  rw [← hF] at hFb
  have HF := hide hF
  obtain ⟨Q, hQ⟩ : ∃ Q : Nat, (Q : Int) = intoS q 0 130 := ⟨(intoS q 0 130).toNat, Int.toNat_of_nonneg (into_bounds q (by omega)).1⟩
  have hQb := (into_bounds q (lo := 0) (hi := 130) (by omega)).2
  rw [← hQ] at hQb
  have hQc : Q ≤ 130 := by omega
  have HQ := hide hQ
  obtain ⟨hF1, hF2⟩ := hFb
  clear hS hL hK hm ha hP hN hF hQ hQb
  go_enter Tryd.func3, Tryd.ntmps3
  go_wp2_with fail
  refine (unhide dC).mono ?_
  rintro e w1 ⟨p1, c1, rfl, hr1⟩
  have HR1 := hide hr1
  have dC := hide (allots_any (cu := cu) (cc := c1) (unhide HK) ((unhide HL).below hr1.bel) (fun d hd => ⟨(unhide HP d hd).1.below hr1.bel, (unhide HP d hd).2⟩) hr1.len hNK hN5 (unhide HM) (own_lies kC_ok hr1.len hr1.row) (fun c hc => clP_mem hc))
  clear hr1
  go_wp2_with fail
  refine (unhide dC).mono ?_
  rintro e w2 ⟨p2, m, c2, rfl, hr2⟩
  have hmk := Mkd.of (by rw [unhide HK]; exact hNK) hN5 (unhide HA) (unhide HR1) hr2
  obtain ⟨A, hA⟩ : ∃ A, A = alP (clP L N) L N := ⟨_, rfl⟩
  rw [← hA] at hmk
  obtain ⟨C, hC⟩ : ∃ C, C = clP L N := ⟨_, rfl⟩
  rw [← hC] at hmk
  have HMK := hide hmk
  have dC := hide (Mkd.taken (cc := c1) (ca := c2) hmk (unhide HS))
  obtain ⟨d, hd⟩ : ∃ d, d = w2.heap.size := ⟨_, rfl⟩
  rw [← hd] at dC
  unfold ptr at dC
  clear hmk hr2 HR1 hA hC hd HL HP HA HM HK
  go_wp2_with fail
  refine (unhide dC).mono ?_
  rintro e w3 ⟨rfl, hsv⟩
  have dC := hide (hsv.first (unhide HS))
  clear hsv
  go_wp2_with fail
  refine (unhide dC).mono ?_
  rintro e w4 ⟨rfl, hsv⟩
  have HV := hide hsv
  have dC := hide (hsv.adv (unhide HS) (t := F) (by omega) (by omega) (by omega))
  unfold ptr at dC
  clear hsv
  go_wp2_with fail
  refine (unhide dI _ _ _ _).mono ?_
  rintro e w5 ⟨rfl, hw⟩
  rw [hw, ← unhide HF]
  clear hw w5 HF HV
  go_wp2_with fail
  refine (unhide dC).mono ?_
  rintro e w5 ⟨rfl, hsv⟩
  have HV := hide hsv
  clear hsv dC
  go_wp2_with fail
  refine (unhide dM _ _).mono ?_
  rintro e w6 ⟨rfl, hw⟩
  rw [hw]
  clear hw w6
  go_wp2_with fail
  go_loopw [11] (fun v11 wr => ∃ (i : Nat), v11 = .int .i64 i ∧ i ≤ Q ∧ Hid (Sv W wr d p1 p2 C A (F - 1 + i))) (fun v11 _ => Q - (intOf v11).toNat)
  case atStart => exact ⟨0, rfl, by omega, hide (by have := unhide HV; simpa using this)⟩
  case round =>
    obtain ⟨i, rfl, hi, hrel⟩ := hrel
    by_cases hlt : i < Q
    · obtain ⟨g, hg⟩ : ∃ g : Int, g = F - 1 + i := ⟨_, rfl⟩
      rw [← hg] at hrel
      obtain ⟨T, hT⟩ : ∃ T : Int, T = 1 + g := ⟨_, rfl⟩
      have hT1 : 1 ≤ T := by omega
      have hT2 : T ≤ 3652000 := by omega
      have dA := hide ((unhide hrel).asOf)
      have dC := hide ((unhide hrel).adv (unhide HS) (t := T + 1) (by omega) (by omega) (by omega))
      rw [← hT] at dA
      have HG : Hid (T = F - 1 + ((i + 1 : Nat) : Int)) := hide (by push_cast; omega)
      unfold ptr at dA dC
      have e1 : T + 1 - 1 = T := by omega
      rw [e1] at dC
      clear hT hg e1 hrel
      go_wp2_with fail
      refine (unhide dI _ _ _ _).mono ?_
      rintro e w6 ⟨rfl, hw⟩
      rw [hw, ← unhide HQ]
      clear hw w6
      have hlt' : (i : Int) < Q := by omega
      go_wp2_with fail
      refine (unhide dA).mono ?_
      rintro e w6 ⟨rfl, hw⟩
      rw [hw]
      clear hw w6 dA
      go_wp2_with fail
      refine (unhide dC).mono ?_
      rintro e w6 ⟨rfl, hsv⟩
      have HV := hide hsv
      have dA := hide (hsv.asOf)
      have e2 : 1 + T = T + 1 := by omega
      rw [e2] at dA
      unfold ptr at dA
      clear hsv dC e2
      go_wp2_with fail
      refine (unhide dM _ _).mono ?_
      rintro e w7 ⟨rfl, hw⟩
      rw [hw]
      clear hw w7
      go_wp2_with fail
      refine (unhide dA).mono ?_
      rintro e w7 ⟨rfl, hw⟩
      rw [hw]
      clear hw w7 dA
      go_wp2_with fail
      go_loopw [13] (fun v13 wr => ∃ (k : Nat), v13 = .int .i64 k ∧ k ≤ N ∧ Hid (Sv W wr d p1 p2 C A T)) (fun v13 _ => N - (intOf v13).toNat)
      case atStart => exact ⟨0, rfl, by omega, unhide HV⟩
      case round =>
        obtain ⟨k, rfl, hk, hrel⟩ := hrel
        by_cases hlt2 : k < N
        · have hkC : k < C.length := by rw [(unhide HMK).cn]; exact hlt2
          obtain ⟨b, off, e, hbl, hr⟩ := (unhide hrel).c k hkC
          obtain ⟨s, hs⟩ : ∃ s, s = C[k].acc := ⟨_, rfl⟩
          have hc1 : wr.cell? ⟨b, off + k * 5 + 1, none⟩ = some (.string s) := by rw [hs]; exact hr 1 _ rfl
          have hsm : s.size ≤ maxLen := by rw [hs]; exact ((unhide HMK).ck _ (List.getElem_mem hkC)).2
          have HSM := hide hsm
          have dN := hide ((unhide hrel).now hsm)
          have HV := hrel
          subst e
          unfold ptr ag5 at dN
          clear hr hs hbl hkC hsm hrel
          go_wp2_with fail
          refine (unhide dN).mono ?_
          rintro e x1 ⟨rfl, hsv⟩
          have dC := hide (hsv.at (unhide HS) (unhide HSM) (T + 1))
          have e3 : atS C A s.data.toList (T + 1) = ageS C A s.data.toList (1 + T) := funext fun j => by
            unfold atS
            rw [if_pos (dayB_of (by omega) (by omega)), Int.add_comm]
          rw [e3] at dC
          unfold ptr ag5 at dC
          clear hsv dN e3
          go_wp2_with fail
          refine (unhide dC).mono ?_
          rintro e x2 ⟨rfl, hsv⟩
          have dS := hide (hsv.steps (cc := c1) (ca := c2) (unhide HS) (unhide HMK).cn (unhide HMK).am (fun c hc => ((unhide HMK).c9 c hc).1.2) (unhide HSM) (t := T) ⟨hT1, by omega⟩)
          unfold ptr at dS
          clear hsv dC
          go_wp2_with fail
          refine (unhide dS).mono ?_
          rintro e x3 ⟨rfl, hsv⟩
          have HV3 := hide hsv
          clear hsv dS
          go_wp2_with fail
          go_round
          case rel => exact ⟨k + 1, by push_cast; rfl, by omega, unhide HV3⟩
          case measure => simp only [intOf]; omega
        · have hkN : ¬ ((k : Int) < N) := by omega
          go_wp2_with fail
          go_round
          case rel => exact ⟨i + 1, by push_cast; rfl, by omega, by rw [← unhide HG]; exact unhide hrel⟩
          case measure => simp only [intOf]; omega
    · have hlt' : ¬ ((i : Int) < Q) := by omega
      go_wp2_with fail
      refine (unhide dI _ _ _ _).mono ?_
      rintro e w6 ⟨rfl, hw⟩
      rw [hw, ← unhide HQ]
      clear hw w6
      go_wp2_with fail
      go_ret
      exact ⟨rfl, (unhide hrel).bel⟩
end Go.Proofs.YtildpgfhahmgmaaDoor
