/- ChartTree (5): the walk. -/
import Derived.Test.YtgimeecklmmbjaaDoorTrA
namespace Go.Proofs.YtgimeecklmmbjaaDoor
open Go Go.Shelf Go.ChangeShapes Go.WideShapes Go.ChangeAt Go.RowKit Go.Maps Go.Sort
set_option linter.unusedVariables false
/-- where the walk through the names stands -/
structure Tq (X3 : World) (L : List Ac) (Q : List Nm) (n : Nat) (p : Option Addr) (m c : Nat) (wr : World) : Prop where
  bf : Bf L Q n
  len : Q.length = m
  row : wr.ownsRow X3.heap.size 9 1 (.slice p m c) m (kT.flat Q)
  bel : Below X3.heap.size X3 wr
theorem new_find_at {W X : World} {d : Nat} {L : List Ac} (h : New W d L X) {a : Ac} (ha : a ∈ L) :
    Calls Tryd.prog 14 #[ptr d, .string (txN a.nm)] X fun e w' => e = .returned (.tuple #[acV a, .bool true]) ∧ Below X.heap.size X w' := by
  have h1 := new_find h (txN a.nm) (name_size (h.good.name a ha))
  rw [txN_list, findA, fnd_of h.good ha] at h1
  exact h1.mono fun e w' h => ⟨h.1, h.2.2⟩
theorem new_kids_at {W X : World} {d : Nat} {L : List Ac} (h : New W d L X) {a : Ac} (ha : a ∈ L) :
    Calls Tryd.prog 18 #[ptr d, .string (txN a.nm)] X fun e w' => ∃ p c, e = .returned (.slice p (kids L a.nm).length c) ∧ (p = none → c = 0) ∧ Lies kT w' p (kids L a.nm) ∧ Below X.heap.size X w' := by
  have h1 := new_kids_own h (txN a.nm) (name_size (h.good.name a ha))
  rw [txN_list] at h1
  refine h1.mono fun e w' h => ?_
  obtain ⟨⟨hk, v, he, hrow⟩, _⟩ := h
  obtain ⟨p, c, rfl, hn, _⟩ := row_slice hrow
  exact ⟨p, c, he, fun h => (hn h).2, own_lies (B := X.heap.size) kT_ok rfl (c := c) (by rw [kT_flat]; exact hrow), hk.1⟩
/-- one name more has been gone through -/
theorem Tq.step {X3 : World} {L : List Ac} {Q : List Nm} {i m c : Nat} {p : Option Addr} {wr w2 : World} (hG : Good L) (h : Tq X3 L Q i p m c wr) (hb : Below wr.heap.size wr w2) (hi : i < Q.length) {pu : Option Addr} {cu : Nat} (hcu : pu = none → cu = 0) (hl : Lies kT w2 pu (kids L Q[i])) :
    ∃ p' c' w', (Builtin.append_ #[48, 48] 48 #[.slice p m c, .slice pu (kids L Q[i]).length cu]).run Tryd.prog w2 = .ok (.slice p' (m + (kids L Q[i]).length) c') w' ∧ Tq X3 L (Q ++ kids L Q[i]) (i + 1) p' (m + (kids L Q[i]).length) c' w' ∧ Below X3.heap.size X3 w' := by
  have hrow := row_keep h.row (fun g hg => hb.block g (row_block h.row hg).2.1)
  have h2 := (h.bf.step hG hi).len hG
  have h3 := hG.len
  rw [List.length_append, h.len] at h2
  obtain ⟨p', c', w', hr, ho, hbl, hk, hat⟩ := run_app kT_ok 48 hrow (Nat.le_trans h.bel.size hb.size) pu cu hcu hl (by omega)
  have hB := (h.bel.trans (hb.mono h.bel.size)).trans hbl
  exact ⟨p', c', w', hr, ⟨h.bf.step hG hi, by rw [List.length_append, h.len], ho, hB⟩, hB⟩
/-- accounts that lie there, read in a later world -/
theorem acc_cells {X3 : World} {b off : Nat} {L : List Ac} (h : Lies kA X3 (some ⟨b, off, none⟩) L) {k : Nat} (hk : k < L.length) {Y : World} (hb : Below X3.heap.size X3 Y) :
    Y.cell? ⟨b, off + k * 4, none⟩ = some (.string (txN L[k].nm)) ∧ Y.cell? ⟨b, off + k * 4 + 1, none⟩ = some (.int .i64 L[k].ty) ∧ Y.cell? ⟨b, off + k * 4 + 3, none⟩ = some (.bool L[k].cl) := by
  obtain ⟨b', off', hp, hlt, hr⟩ := lies_acc h hk
  cases hp
  have h2 : ∀ j v, (vals4 L[k])[j]? = some v → Y.cell? ⟨b, off + k * 4 + j, none⟩ = some v := fun j v hv => (hb.cell (p := ⟨b, off + k * 4 + j, none⟩) hlt).trans (hr j v hv)
  exact ⟨h2 0 _ rfl, h2 1 _ rfl, h2 3 _ rfl⟩
theorem txt_cells {X3 : World} {b off : Nat} {K : List Nm} (h : Lies kT X3 (some ⟨b, off, none⟩) K) {k : Nat} (hk : k < K.length) {Y : World} (hb : Below X3.heap.size X3 Y) :
    Y.cell? ⟨b, off + k, none⟩ = some (.string (txN K[k])) := by
  obtain ⟨b', off', hp, hlt, hc⟩ := lies_txt h hk
  cases hp
  exact (hb.cell (p := ⟨b, off + k, none⟩) hlt).trans hc
theorem in_take {P : List Nm} {j : Nat} (hj : j < P.length) (x : Nm) : decide (x ∈ P.take (j + 1)) = (decide (x ∈ P.take j) || decide (P[j] = x)) := by
  have h : x ∈ P.take (j + 1) ↔ x ∈ P.take j ∨ P[j] = x := by
    rw [← List.take_append_getElem hj, List.mem_append, List.mem_singleton]
    exact or_congr_right eq_comm
  rw [Bool.eq_iff_iff, decide_eq_true_iff, Bool.or_eq_true, decide_eq_true_iff, decide_eq_true_iff]
  exact h
theorem last_get {K : List Nm} {m : Nat} (hm : K.length = m) (h0 : 0 < m) : lastS K = txN (K[m - 1]'(by omega)) := by
  subst hm
  rw [lastS]
  congr 2
  rw [List.getLastD_eq_getLast?, List.getLast?_eq_getElem?, List.getElem?_eq_getElem (by omega)]
  rfl
section
set_option maxRecDepth 100000 in
set_option maxHeartbeats 16000000 in
theorem tree_walk {W : World} {p1 : Option Addr} {n1 c1 : Nat} {A : List Av} (hA : A.length = n1) (hn1 : n1 ≤ 2305843009213693951) (hL1 : ActsAt W p1 A) (hok1 : ∀ v ∈ A, v.ok) :
    Calls Tryd.prog 5 #[.slice p1 n1 c1] W fun e w' => e = .returned (.bool true) ∧ Below W.heap.size W w' := by
  have d6 := hide (first_any W)
  have HL1 := hide hL1; have HA := hide hA; have HOK1 := hide hok1
  clear hL1 hA hok1
  go_enter Tryd.func5, Tryd.ntmps5
  go_upto_region 2 with (go_at_call 6; refine (unhide d6).mono ?_; rintro e X1 ⟨rfl, hb⟩; have B1 := hide hb; clear hb)
  have d7 := hide (played_any (c := c1) (unhide HA) hn1 ((unhide HL1).below (unhide B1)) (unhide HOK1))
  obtain ⟨L, hL⟩ : ∃ L, L = playL [] A := ⟨_, rfl⟩
  rw [← hL] at d7
  obtain ⟨d1, hd1⟩ : ∃ d1, d1 = X1.heap.size := ⟨_, rfl⟩
  rw [← hd1] at d7
  clear hL hd1
  go_upto_region 3 with (go_at_call 7; refine (unhide d7).mono ?_; rintro e X2 ⟨rfl, hn⟩; have N2 := hide hn; clear hn)
  go_upto_region 4 with (go_at_call 9; refine (new_accounts (unhide N2)).mono ?_; rintro e X3 ⟨ho, hn⟩; obtain ⟨pa, ca, rfl, hlies, _, _, _⟩ := ho; have N3 := hide hn; have L3 := hide hlies; clear hn hlies)
  have HG := hide (unhide N3).good
  have dK0 := new_kids_own (unhide N3) ⟨#[]⟩ (by decide)
  rw [show (⟨#[]⟩ : ByteArray).data.toList = [] from rfl] at dK0
  have dK := hide dK0
  have Z0 := hide (bf_zero (unhide HG))
  obtain ⟨K0, hK0⟩ : ∃ K0, K0 = kids L [] := ⟨_, rfl⟩
  rw [← hK0] at dK Z0
  obtain ⟨nl, hnl⟩ : ∃ nl, nl = L.length := ⟨_, rfl⟩
  have HNL := hide hnl
  have hnl1 : nl ≤ 100 := by rw [hnl]; exact (unhide HG).len
  rw [← hnl]
  clear hK0 dK0 hnl d6 d7 N2
  go_upto_region 5 with (go_at_call 18; refine (unhide dK).mono ?_; rintro e X4 ⟨⟨hk, v, he, hrow⟩, _⟩; obtain ⟨p4, c4, rfl, _⟩ := row_slice hrow; subst he; have R4 := hide hrow; have B4 := hide hk.1; clear hk hrow)
  obtain ⟨m0, hm0⟩ : ∃ m0, m0 = K0.length := ⟨_, rfl⟩
  have T0 : Hid (∃ Q, Tq X3 L Q 0 p4 m0 c4 X4) := ⟨K0, unhide Z0, hm0.symm, by rw [kT_flat, hm0]; exact unhide R4, unhide B4⟩
  have hm1 : m0 ≤ nl := by
    have h1 := (unhide Z0).len (unhide HG)
    have h2 := unhide HNL
    omega
  rw [← hm0]
  clear hm0 R4 dK Z0
  go_wp2_with fail
  go_loopw [6, 7, 8] (fun v6 v7 v8 wr => ∃ (i m c : Nat) (p : Option Addr), i ≤ m ∧ m ≤ nl ∧ v6 = .slice p m c ∧ v7 = .int .i64 i ∧ v8 = .int .i64 i ∧ Hid (∃ Q, Tq X3 L Q i p m c wr)) (fun _ _ v8 _ => nl + 1 - (intOf' v8).toNat)
  case atStart => exact ⟨0, m0, c4, p4, Nat.zero_le _, hm1, rfl, rfl, rfl, unhide T0⟩
  case round =>
    obtain ⟨i, m, c, p, him, hm, rfl, rfl, rfl, hrel⟩ := hrel
    clear T0 hm1 B4
    by_cases hlt : i < m
    · obtain ⟨Q, hq⟩ := unhide hrel
      have hiQ : i < Q.length := by rw [hq.len]; exact hlt
      obtain ⟨a, ha, hax⟩ := hq.bf.mem (List.getElem_mem hiQ)
      obtain ⟨b, off, hp, hbw, hc⟩ := lies_txt (own_lies kT_ok hq.len hq.row) hiQ
      subst hp
      rw [← hax] at hc
      have hNr := (unhide N3).below hq.bel
      have dF := hide (new_find_at hNr ha)
      unfold acV at dF
      have dK : Hid (∀ Y, Below wr.heap.size wr Y → Calls Tryd.prog 18 #[ptr d1, .string (txN a.nm)] Y fun e w' => ∃ (p5 : Option Addr) (k5 c5 : Nat) (p6 : Option Addr) (m6 c6 : Nat) (w6 : World), e = .returned (.slice p5 k5 c5) ∧ (Builtin.append_ #[48, 48] 48 #[.slice (some ⟨b, off, none⟩) m c, .slice p5 k5 c5]).run Tryd.prog w' = .ok (.slice p6 m6 c6) w6 ∧ m6 ≤ nl ∧ i + 1 ≤ m6 ∧ Hid (∃ Q, Tq X3 L Q (i + 1) p6 m6 c6 w6)) := fun Y hY => by
        refine (new_kids_at (hNr.below hY) ha).mono ?_
        rintro e w' ⟨p5, c5, rfl, hn, hl, hb⟩
        have hwY := hY.trans (hb.mono hY.size)
        rw [hax] at hl ⊢
        obtain ⟨p6, c6, w6, hr, ht, _⟩ := hq.step (unhide HG) hwY hiQ hn hl
        have h1 := ht.bf.len (unhide HG)
        rw [ht.len, ← unhide HNL] at h1
        exact ⟨p5, _, c5, p6, _, c6, w6, rfl, hr, h1, by omega, _, ht⟩
      obtain ⟨T, hT⟩ : ∃ T, T = txN a.nm := ⟨_, rfl⟩
      rw [← hT] at hc dF dK
      have HC0 := hide hc
      clear hT hq hax ha hiQ hNr hrel
      have hwi : IntKind.i64.wrap ((i : Int) + 1) = (i : Int) + 1 := wrapI (by omega) (by omega)
      as_aux_lemma =>
        go_upto_region 10 with (go_at_call 14; refine (unhide dF).mono ?_; rintro e Y1 ⟨rfl, hb⟩; have BY := hide hb; clear hb)
        have hcY : Y1.cell? ⟨b, off + i, none⟩ = some (.string T) := ((unhide BY).cell (p := ⟨b, off + i, none⟩) hbw).trans (unhide HC0)
        have hbY : b < Y1.heap.size := Nat.lt_of_lt_of_le hbw (unhide BY).size
        have BW : Hid (∀ (o : Obj) (k : Nat), Below wr.heap.size wr ((Y1.alloc o).drewN k)) := fun o k => below_drewN ((unhide BY).alloc (unhide BY).size o) k
        clear dF hc
        go_wp2_with fail
        go_quiet (fail)
        have hle : ∀ M : Nat, M ≤ nl → ¬ (nl : Int) < (M : Int) := fun M h => by omega
        have HLE := hide hle
        clear hle
        go_upto_region 14 with first
          | (go_at_call 18; with_reducible refine (unhide dK _ (unhide BW _ _)).mono ?_; rintro e Y2 ⟨p5, k5, c5, p6, m6, c6, w6, rfl, hr6, hm6, hi6, ht6⟩; have HR6 := hide hr6; have hle6 := unhide HLE m6 hm6; clear hr6)
          | (at_builtin; refine wpList_append_run rfl _ _ 48 rfl _ _ _ _ rfl rfl (unhide HR6) ?_)
        go_wp2_with fail
        refine ⟨⟨i + 1, m6, c6, p6, hi6, hm6, rfl, by simp, by simp, ht6⟩, ?_⟩
        show nl + 1 - ((i : Int) + 1).toNat < nl + 1 - ((i : Int)).toNat
        omega
    · have hin : i = m := by omega
      have hmn : m = nl := by
        obtain ⟨Q, hq⟩ := unhide hrel
        have h1 := hq.bf
        rw [hin, ← hq.len] at h1
        rw [unhide HNL, ← h1.full (unhide HG), hq.len]
      have B5 : Hid (Below X3.heap.size X3 wr) := by
        obtain ⟨Q, hq⟩ := unhide hrel
        exact hq.bel
      subst hmn
      subst hin
      clear hrel
      have hir : ¬ (i : Int) < (i : Int) := Int.lt_irrefl _
      obtain ⟨w5, hw5⟩ : ∃ w5, w5 = wr := ⟨_, rfl⟩
      rw [← hw5] at B5 ⊢
      clear hw5
      obtain ⟨nl, hnl⟩ : ∃ nl, nl = i := ⟨_, rfl⟩
      rw [← hnl] at HNL hnl1 ⊢
      clear him hlt hm hir hnl i
      go_wp2_with fail
      go_loopw [11] (fun v11 wr => ∃ i : Nat, i ≤ nl ∧ v11 = .int .i64 i ∧ Hid (Below X3.heap.size X3 wr)) (fun v11 _ => nl - (intOf' v11).toNat)
      case atStart => exact ⟨0, Nat.zero_le _, rfl, unhide B5⟩
      case round =>
        obtain ⟨i, hi, rfl, hrel⟩ := hrel
        by_cases hlt : i < nl
        · have hiL : i < L.length := by rw [← unhide HNL]; exact hlt
          obtain ⟨b, off, hp, hbX, _⟩ := lies_acc (unhide L3) hiL
          subst hp
          obtain ⟨a, ha⟩ : ∃ a, a = L[i] := ⟨_, rfl⟩
          have haL : a ∈ L := by rw [ha]; exact List.getElem_mem hiL
          have haN := (unhide HG).name a haL
          have HC : Hid (∀ Y, Below X3.heap.size X3 Y → Y.cell? ⟨b, off + i * 4, none⟩ = some (.string (txN a.nm)) ∧ Y.cell? ⟨b, off + i * 4 + 1, none⟩ = some (.int .i64 a.ty) ∧ Y.cell? ⟨b, off + i * 4 + 3, none⟩ = some (.bool a.cl)) := fun Y hY => by
            rw [ha]
            exact acc_cells (unhide L3) hiL hY
          obtain ⟨P, hP⟩ : ∃ P, P = pathL a.nm := ⟨_, rfl⟩
          have hPi := path_is (unhide HG) haL
          rw [← hP] at hPi
          obtain ⟨m, hm⟩ : ∃ m, m = P.length := ⟨_, rfl⟩
          have hm1 : 1 ≤ m := by rw [hm, hPi]; simp
          have hm6 : m ≤ 6 := by rw [hm, hP]; exact path_len _
          have dPa := hide (path_lies a.nm (name_size haN) wr)
          rw [← hP, ← hm] at dPa
          have dRo := hide (root_any (txN a.nm) (name_size haN))
          rw [txN_list, ← hP] at dRo
          obtain ⟨R, hR⟩ : ∃ R, R = lastS P := ⟨_, rfl⟩
          rw [← hR] at dRo
          have HR := hide hR
          clear hR
          have dPr := hide (parent_any (txN a.nm) (name_size haN))
          rw [txN_list] at dPr
          have dUn : Hid (∀ (k : Nat) (hk : k < L.length) (w : World), Calls Tryd.prog 17 #[.string (txN a.nm), .string (txN L[k].nm)] w fun e w' => e = .returned (.bool (decide (L[k].nm ∈ P))) ∧ Below w.heap.size w w') := fun k hk w => by
            have h1 := under_any (txN a.nm) (txN L[k].nm) (name_size haN) w
            rw [undS, txN_list, txN_list, ← hP] at h1
            exact h1
          have HUP : Hid (∀ (k : Nat) (hk : k < L.length), L[k].nm ∈ P → L[k].ty = a.ty ∧ (L[k].cl = true → a.cl = true)) := fun k hk hin => path_up (unhide HG) _ a L[k] haL (List.getElem_mem hk) (Nat.le_refl _) (by rw [← hP]; exact hin)
          have c0 := (unhide HC wr (unhide hrel)).1
          obtain ⟨T, hT⟩ : ∃ T, T = txN a.nm := ⟨_, rfl⟩
          rw [← hT] at c0 dPa dRo dPr dUn HC
          have HT := hide hT; have HA := hide ha; have HM := hide hm; have HPI := hide hPi; have HAN := hide haN
          have hP0 : Hid (∀ h : 0 < P.length, txN P[0] = T) := fun h => by
            rw [unhide HT]
            congr 2
            simp only [unhide HPI]
            rfl
          clear hT ha haL haN hP hPi hm
          go_upto_region 22 with (go_at_call 19; refine (unhide dPa).mono ?_; rintro e Y ⟨pp, cp, rfl, hlp, hb⟩; have LP := hide hlp; have BY := hide hb; clear hlp hb)
          obtain ⟨bp, op, hpp, hbp, _⟩ := lies_txt (unhide LP) (k := 0) (by rw [← unhide HM]; omega)
          subst hpp
          have BX : Hid (Below X3.heap.size X3 Y) := (unhide hrel).trans ((unhide BY).mono (unhide hrel).size)
          have HCP : Hid (∀ (j : Nat) (hj : j < P.length) Z, Below Y.heap.size Y Z → Z.cell? ⟨bp, op + j, none⟩ = some (.string (txN P[j]))) := fun j hj Z hZ => txt_cells (unhide LP) hj hZ
          have HX : Hid (∀ Z, Below Y.heap.size Y Z → Below X3.heap.size X3 Z) := fun Z hZ => (unhide BX).trans (hZ.mono (unhide BX).size)
          have hmP : m - 1 < P.length := by rw [← unhide HM]; omega
          have h0P : 0 < P.length := by rw [← unhide HM]; omega
          have k0 : ∀ q : Bel Y, q.W.cell? ⟨bp, op, none⟩ = some (.string T) := fun q => by
            have h1 := unhide HCP 0 h0P _ q.h
            rwa [unhide hP0 h0P] at h1
          have hR : R = txN P[m - 1] := (unhide HR).trans (last_get (unhide HM).symm (by omega))
          have k1 : ∀ q : Bel Y, q.W.cell? ⟨bp, op + (m - 1), none⟩ = some (.string R) := fun q => by rw [hR]; exact unhide HCP (m - 1) hmP _ q.h
          have k2 : ∀ q : Bel Y, q.W.cell? ⟨b, off + i * 4, none⟩ = some (.string T) := fun q => (unhide HC _ (unhide HX _ q.h)).1
          have dR : Hid (∀ q : Bel Y, Calls Tryd.prog 20 #[.string T] q.W fun e w'' => e = .returned (.string R) ∧ ∃ q' : Bel Y, w'' = q'.W) := fun q => by
            refine (unhide dRo q.W).mono ?_
            rintro e w'' ⟨rfl, hb''⟩
            exact ⟨rfl, ⟨w'', q.h.trans (hb''.mono q.h.size)⟩, rfl⟩
          have hm0 : ¬ (m : Int) = 0 := by omega
          have hm0b : ((m : Int) == 0) = false := by simp; omega
          have hm0c : decide ((m : Int) = 0) = false := decide_eq_false hm0
          have hpos : (0 : Int) < (m : Int) := by omega
          have hposN : 0 < m := by omega
          have hw1 : IntKind.i64.wrap ((m : Int) - 1) = ((m - 1 : Nat) : Int) := by rw [wrapI (by omega) (by omega)]; omega
          have hml : m - 1 < m := by omega
          clear hR hmP h0P c0 dPa dRo
          go_upto_region 22 with fail
          go_cut [132] from 74 to 228 (fun v132 wx => v132 = .bool false ∧ Hid (Below Y.heap.size Y wx))
          case first =>
            rcases i with _ | i
            · have k3 : ∀ q : Bel Y, q.W.cell? ⟨b, off, none⟩ = some (.string T) := fun q => by have h1 := k2 q; rwa [Nat.zero_mul, Nat.add_zero] at h1
              clear k2
              as_aux_lemma =>
                refine wp_region_quiet_below (by kernel_rfl) (by kernel_rfl) ?_
                repeat (go_big_quiet_step (first | (go_at_call 20; refine unhide dR _)))
                refine wpQuiet_nil ?_
                rintro _ ⟨q, rfl⟩
                have HQ := hide q.h
                go_wp2
                go_meet
                exact ⟨rfl, unhide HQ⟩
            · obtain ⟨b', off', hp', _, _⟩ := lies_acc (unhide L3) (k := i) (by omega)
              obtain ⟨q0, hq0⟩ : ∃ q0, q0 = (L[i]'(by omega)).nm := ⟨_, rfl⟩
              have hlt0 : q0 < a.nm := by rw [hq0, unhide HA]; exact rise_get (unhide HG) (by omega) hiL
              obtain ⟨T0, hT0⟩ : ∃ T0, T0 = txN q0 := ⟨_, rfl⟩
              have k3 : ∀ q : Bel Y, q.W.cell? ⟨b, off + i * 4, none⟩ = some (.string T0) := fun q => by
                rw [hT0, hq0]
                exact (acc_cells (unhide L3) (by omega) (unhide HX _ q.h)).1
              have z1 : Op.bytesLess T.toList T0.toList = false := by
                rw [unhide HT, hT0, Go.Proofs.bytesLess_eq, ByteArray.toList_eq, ByteArray.toList_eq, txN_list, txN_list]
                exact decide_eq_false fun h => slt_irrefl _ (slt_trans h hlt0)
              have z3 : ¬ T.toList = T0.toList := by
                rw [unhide HT, hT0, ByteArray.toList_eq, ByteArray.toList_eq, txN_list, txN_list]
                intro h
                rw [h] at hlt0
                exact slt_irrefl _ hlt0
              have z2 : (T.toList == T0.toList) = false := beq_eq_false_iff_ne.2 z3
              have z4 : IntKind.i64.wrap ((i : Int) + 1 - 1) = (i : Int) := by rw [wrapI (by omega) (by omega)]; omega
              have z5 : IntKind.i64.wrap (i : Int) = (i : Int) := wrapI (by omega) (by omega)
              have z6 : (0 : Int) < (i : Int) + 1 := by omega
              have z7 : i < nl := by omega
              clear hq0 hlt0 hT0 hp'
              as_aux_lemma =>
                refine wp_region_quiet_below (by kernel_rfl) (by kernel_rfl) ?_
                repeat (go_big_quiet_step (first | (go_at_call 20; refine unhide dR _)))
                refine wpQuiet_nil ?_
                rintro _ ⟨q, rfl⟩
                have HQ := hide q.h
                go_wp2
                go_meet
                exact ⟨rfl, unhide HQ⟩
          obtain ⟨rfl, BZ⟩ := hcut
          obtain ⟨w6, hw6⟩ : ∃ w6, w6 = wc := ⟨_, rfl⟩
          rw [← hw6] at BZ ⊢
          clear hw6 wc k0 k1 k2 dR hm0 hm0b hm0c hpos hposN hw1 hml
          go_wp2_with fail
          go_loopw [13] (fun v13 wr => ∃ k : Nat, k ≤ nl ∧ v13 = .int .i64 k ∧ Hid (Below Y.heap.size Y wr)) (fun v13 _ => nl - (intOf' v13).toNat)
          case atStart => exact ⟨0, Nat.zero_le _, rfl, unhide BZ⟩
          case round =>
            obtain ⟨k, hk, rfl, hrk⟩ := hrel
            by_cases hkl : k < nl
            · have hkL : k < L.length := by rw [← unhide HNL]; exact hkl
              obtain ⟨w7, hw7⟩ : ∃ w7, w7 = wr := ⟨_, rfl⟩
              rw [← hw7] at hrk ⊢
              clear hw7
              obtain ⟨c, hc⟩ : ∃ c, c = L[k] := ⟨_, rfl⟩
              have HCK : Hid (∀ Z, Below Y.heap.size Y Z → Z.cell? ⟨b, off + k * 4, none⟩ = some (.string (txN c.nm)) ∧ Z.cell? ⟨b, off + k * 4 + 1, none⟩ = some (.int .i64 c.ty) ∧ Z.cell? ⟨b, off + k * 4 + 3, none⟩ = some (.bool c.cl)) := fun Z hZ => by
                rw [hc]
                exact acc_cells (unhide L3) hkL (unhide HX _ hZ)
              have dU := hide (unhide dUn k hkL)
              have hup := unhide HUP k hkL
              rw [← hc] at dU hup
              have HUK := hide hup
              obtain ⟨U, hU⟩ : ∃ U, U = txN c.nm := ⟨_, rfl⟩
              rw [← hU] at dU HCK
              have HU := hide hU
              have hU3 : Hid (∀ x : Nm, (txN x).toList = U.toList ↔ x = c.nm) := fun x => by rw [hU, ByteArray.toList_eq, ByteArray.toList_eq, txN_list, txN_list]
              clear hU hc hup
              go_wp2_with fail
              go_loopw [14, 15] (fun v14 v15 wr => ∃ j : Nat, j ≤ m ∧ v15 = .int .i64 j ∧ v14 = .bool (decide (c.nm ∈ P.take j)) ∧ Hid (Below Y.heap.size Y wr)) (fun _ v15 _ => m - (intOf' v15).toNat)
              case atStart => exact ⟨0, Nat.zero_le _, rfl, by simp, unhide hrk⟩
              case round =>
                obtain ⟨j, hj, rfl, rfl, hrj⟩ := hrel
                by_cases hjm : j < m
                · have hjP : j < P.length := by rw [← unhide HM]; exact hjm
                  have k4 := unhide HCP j hjP _ (unhide hrj)
                  have k5 := (unhide HCK _ (unhide hrj)).1
                  have HIT := hide (in_take hjP c.nm)
                  have hwj : IntKind.i64.wrap ((j : Int) + 1) = (j : Int) + 1 := wrapI (by omega) (by omega)
                  have BJ : Hid (∀ n : Nat, Below Y.heap.size Y (wr.drewN n)) := fun n => below_drewN (unhide hrj) n
                  cases hin : decide (c.nm ∈ P.take j) with
                  | true =>
                    rw [hin] at HIT
                    have HIT2 : Hid (true = decide (c.nm ∈ P.take (j + 1))) := by show _ = _; rw [unhide HIT, Bool.true_or]
                    as_aux_lemma =>
                      clear HIT hin
                      go_wp2_with fail
                      go_quiet (fail)
                      go_wp2_with fail
                      refine ⟨⟨j + 1, by omega, by simp, by rw [← unhide HIT2], unhide BJ _⟩, ?_⟩
                      show m - ((j : Int) + 1).toNat < m - ((j : Int)).toNat
                      omega
                  | false =>
                    rw [hin] at HIT
                    obtain ⟨V, hV⟩ : ∃ V, V = txN P[j] := ⟨_, rfl⟩
                    rw [← hV] at k4
                    by_cases hvu : P[j] = c.nm
                    · have hVU : V = U := by rw [hV, hvu, unhide HU]
                      subst hVU
                      have HIT2 : Hid (true = decide (c.nm ∈ P.take (j + 1))) := by show _ = _; rw [unhide HIT, Bool.false_or, decide_eq_true hvu]
                      as_aux_lemma =>
                        clear HIT hin hV hvu
                        go_wp2_with fail
                        go_quiet (fail)
                        go_wp2_with fail
                        refine ⟨⟨j + 1, by omega, by simp, by rw [← unhide HIT2], unhide BJ _⟩, ?_⟩
                        show m - ((j : Int) + 1).toNat < m - ((j : Int)).toNat
                        omega
                    · have z3 : ¬ V.toList = U.toList := fun h => hvu ((unhide hU3 _).1 (by rw [← hV]; exact h))
                      have z2 : (V.toList == U.toList) = false := beq_eq_false_iff_ne.2 z3
                      have HIT2 : Hid (false = decide (c.nm ∈ P.take (j + 1))) := by show _ = _; rw [unhide HIT, Bool.false_or, decide_eq_false hvu]
                      as_aux_lemma =>
                        clear HIT hin hV hvu
                        go_wp2_with fail
                        go_quiet (fail)
                        go_wp2_with fail
                        refine ⟨⟨j + 1, by omega, by simp, by rw [← unhide HIT2], unhide BJ _⟩, ?_⟩
                        show m - ((j : Int) + 1).toNat < m - ((j : Int)).toNat
                        omega
                · have hjm2 : j = m := by omega
                  subst hjm2
                  have htk : P.take j = P := List.take_of_length_le (by rw [← unhide HM]; exact Nat.le_refl _)
                  rw [htk]
                  obtain ⟨D, hD⟩ : ∃ D, D = decide (c.nm ∈ P) := ⟨_, rfl⟩
                  rw [← hD] at dU ⊢
                  have HUD : Hid (D = true → c.ty = a.ty ∧ (c.cl = true → a.cl = true)) := fun h => unhide HUK (by rw [hD] at h; exact of_decide_eq_true h)
                  clear htk hD
                  obtain ⟨w9, hw9⟩ : ∃ w9, w9 = wr := ⟨_, rfl⟩
                  rw [← hw9] at hrj ⊢
                  clear hw9
                  go_upto_region 32 with fail
                  go_cut [204] from 133 to 204 (fun v204 wx => v204 = .bool false ∧ Hid (Below Y.heap.size Y wx))
                  case first =>
                    have hq : ∀ q : Bel w9, Below Y.heap.size Y q.W := fun q => (unhide hrj).trans (q.h.mono (unhide hrj).size)
                    have HQ9 := hide hq
                    have k6 : ∀ q : Bel w9, q.W.cell? ⟨b, off + k * 4, none⟩ = some (.string U) := fun q => (unhide HCK _ (hq q)).1
                    have k7 : ∀ q : Bel w9, q.W.cell? ⟨b, off + i * 4, none⟩ = some (.string T) := fun q => (unhide HC _ (unhide HX _ (hq q))).1
                    have k8 : ∀ q : Bel w9, q.W.cell? ⟨b, off + i * 4 + 1, none⟩ = some (.int .i64 a.ty) := fun q => (unhide HC _ (unhide HX _ (hq q))).2.1
                    have k9 : ∀ q : Bel w9, q.W.cell? ⟨b, off + k * 4 + 1, none⟩ = some (.int .i64 c.ty) := fun q => (unhide HCK _ (hq q)).2.1
                    have k10 : ∀ q : Bel w9, q.W.cell? ⟨b, off + i * 4 + 3, none⟩ = some (.bool a.cl) := fun q => (unhide HC _ (unhide HX _ (hq q))).2.2
                    have k11 : ∀ q : Bel w9, q.W.cell? ⟨b, off + k * 4 + 3, none⟩ = some (.bool c.cl) := fun q => (unhide HCK _ (hq q)).2.2
                    have dU9 : Hid (∀ q : Bel w9, Calls Tryd.prog 17 #[.string T, .string U] q.W fun e w'' => e = .returned (.bool D) ∧ ∃ q' : Bel w9, w'' = q'.W) := fun q => by
                      refine (unhide dU q.W).mono ?_
                      rintro e w'' ⟨rfl, hb''⟩
                      exact ⟨rfl, ⟨w'', q.h.trans (hb''.mono q.h.size)⟩, rfl⟩
                    clear hq dU
                    cases D with
                    | false =>
                      clear k8 k9 k10 k11
                      as_aux_lemma =>
                        refine wp_region_quiet_below (by kernel_rfl) (by kernel_rfl) ?_
                        repeat (go_big_quiet_step (first | (go_at_call 17; refine unhide dU9 _)))
                        refine wpQuiet_nil ?_
                        rintro _ ⟨q, rfl⟩
                        have HQ := hide (unhide HQ9 q)
                        go_wp2
                        go_meet
                        exact ⟨rfl, unhide HQ⟩
                    | true =>
                      obtain ⟨hty, hcl⟩ := unhide HUD rfl
                      rw [hty] at k9
                      clear hty
                      cases hcc : c.cl with
                      | false =>
                        rw [hcc] at k11
                        clear hcc hcl k10
                        as_aux_lemma =>
                          refine wp_region_quiet_below (by kernel_rfl) (by kernel_rfl) ?_
                          repeat (go_big_quiet_step (first | (go_at_call 17; refine unhide dU9 _)))
                          refine wpQuiet_nil ?_
                          rintro _ ⟨q, rfl⟩
                          have HQ := hide (unhide HQ9 q)
                          go_wp2
                          go_meet
                          exact ⟨rfl, unhide HQ⟩
                      | true =>
                        rw [hcc] at k11
                        rw [hcl hcc] at k10
                        clear hcc hcl
                        as_aux_lemma =>
                          refine wp_region_quiet_below (by kernel_rfl) (by kernel_rfl) ?_
                          repeat (go_big_quiet_step (first | (go_at_call 17; refine unhide dU9 _)))
                          refine wpQuiet_nil ?_
                          rintro _ ⟨q, rfl⟩
                          have HQ := hide (unhide HQ9 q)
                          go_wp2
                          go_meet
                          exact ⟨rfl, unhide HQ⟩
                  obtain ⟨rfl, B9⟩ := hcut
                  have hwk : IntKind.i64.wrap ((k : Int) + 1) = (k : Int) + 1 := wrapI (by omega) (by omega)
                  as_aux_lemma =>
                    clear dU HUD
                    go_wp2_with fail
                    refine ⟨⟨k + 1, by omega, by simp, unhide B9⟩, ?_⟩
                    show nl - ((k : Int) + 1).toNat < nl - ((k : Int)).toNat
                    omega
            · have hkn : k = nl := by omega
              subst hkn
              obtain ⟨w9, hw9⟩ : ∃ w9, w9 = wr := ⟨_, rfl⟩
              rw [← hw9] at hrk ⊢
              clear hw9
              have k7 := (unhide HC _ (unhide HX _ (unhide hrk))).1
              have hwi : IntKind.i64.wrap ((i : Int) + 1) = (i : Int) + 1 := wrapI (by omega) (by omega)
              rcases ups_cases a.nm with e | ⟨p2, e, _⟩
              · have hps : parS a.nm = (⟨#[]⟩, false) := by rw [parS, if_pos (unhide HAN), e]
                rw [hps] at dPr
                have hm1' : m = 1 := by rw [unhide HM, unhide HPI, e]; rfl
                subst hm1'
                clear hps e
                as_aux_lemma =>
                  go_upto_region 35 with (go_at_call 13; refine (unhide dPr _).mono ?_; rintro e w10 ⟨rfl, hb⟩; have B10 := hide hb; clear hb)
                  have BF := hide (unhide HX _ ((unhide hrk).trans ((unhide B10).mono (unhide hrk).size)))
                  go_wp2_with fail
                  refine ⟨⟨i + 1, by omega, by simp, unhide BF⟩, ?_⟩
                  show k - ((i : Int) + 1).toNat < k - ((i : Int)).toNat
                  omega
              · have hps : parS a.nm = (txN p2, true) := by rw [parS, if_pos (unhide HAN), e]
                rw [hps] at dPr
                have h1P : 1 < P.length := by rw [unhide HPI, e]; simp
                have hm2 : 1 < m := by rw [unhide HM]; exact h1P
                have hP1 : P[1] = p2 := by simp only [unhide HPI, e]; rfl
                have k8 := unhide HCP 1 h1P
                rw [hP1] at k8
                have K8 := hide k8
                obtain ⟨V, hV⟩ : ∃ V, V = txN p2 := ⟨_, rfl⟩
                rw [← hV] at K8 dPr
                have hm3 : (1 : Int) < (m : Int) := by omega
                have hm4 : decide ((1 : Int) < (m : Int)) = true := decide_eq_true hm3
                clear hps e hP1 k8 hV
                as_aux_lemma =>
                  go_upto_region 35 with (go_at_call 13; refine (unhide dPr _).mono ?_; rintro e w10 ⟨rfl, hb⟩; have B10 := hide hb; clear hb)
                  have B11 := (unhide hrk).trans ((unhide B10).mono (unhide hrk).size)
                  have k8 := unhide K8 _ B11
                  have BF := hide (unhide HX _ B11)
                  clear B11
                  go_wp2_with fail
                  refine ⟨⟨i + 1, by omega, by simp, unhide BF⟩, ?_⟩
                  show k - ((i : Int) + 1).toNat < k - ((i : Int)).toNat
                  omega
        · have hin : i = nl := by omega
          subst hin
          as_aux_lemma =>
            have BF : Hid (Below W.heap.size W wr) := (unhide B1).trans (((unhide N3).bel.trans ((unhide hrel).mono (unhide N3).bel.size)).mono (unhide B1).size)
            go_wp2_with fail
            go_ret
            exact ⟨rfl, unhide BF⟩
end
end Go.Proofs.YtgimeecklmmbjaaDoor
