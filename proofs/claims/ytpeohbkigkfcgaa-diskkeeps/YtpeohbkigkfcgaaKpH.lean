/- DiskKeeps (5): the walk. -/
import Derived.Test.YtpeohbkigkfcgaaKpF
import Derived.Test.YtpeohbkigkfcgaaKpG
namespace Go.Proofs.Ytpeohbkigkfcgaa
open Go Go.Shelf Go.ChangeShapes Go.WideShapes Go.ChangeAt Go.RowKit Go.Maps Go.Sort
set_option linter.unusedVariables false
theorem shows_any {w : World} {d N : Nat} {S : Nat → Prop} {cap fu : Int} {dn : Bool} {A : Fs} (hD : DiskOK w d N ⟨cap, A, fu, dn⟩ S) (hI : Inv ⟨cap, A, fu, dn⟩) {U : Nat → Prop} {v : Value} {l : Fs} (hb : BookAt w U v l) (hp : l.Perm A) :
    Calls Try.prog 20 #[.pointer (some ⟨d, 0, none⟩), v] w fun e w' => e = .returned (.bool true) ∧ Below w.heap.size w w' := by
  cases dn
  · exact shows_up hD hI hb hp
  · exact shows_down hD hI hb hp
theorem act14 (nm to : ByteArray) (bs : List UInt8) (nn : Int) (ks : List Int) (K : Dk) : actK ⟨14, nm, to, bs, nn, ks⟩ K = (crashK ks K, 0) := by
  unfold actK
  simp
/-- what holds at the head of each round -/
def KRel (W : World) (n : Nat) (ub ui : Value) (wr : World) : Prop :=
  ∃ (i : Nat) (K : Dk) (S : Nat → Prop) (l : Fs) (U : Nat → Prop), ui = .int .i64 (i : Int) ∧ i ≤ n ∧ i ≤ 400 ∧ DiskOK wr W.heap.size (i * 64) K S ∧ Inv K ∧ (∀ q, S q → W.heap.size ≤ q) ∧ Below W.heap.size W wr ∧ BookAt wr U ub l ∧ l.Perm K.A ∧ (∀ q, U q → W.heap.size ≤ q) ∧ (∀ q, U q → ¬ S q)
set_option maxRecDepth 100000 in
set_option maxHeartbeats 4000000 in
theorem keeps_walk (x : Int) (hx0 : -9223372036854775808 ≤ x) (hx1 : x ≤ 9223372036854775807) (n : Nat) (pu : Option Addr) (cu : Nat) (X : Nat → OpX) (W : World) (hn : n ≤ maxLen) (hops : OpsAt W (.slice pu n cu) n X) (hop : ∀ i, i < n → OpAt W (X i).o (X i).pb (X i).cb (X i).pk (X i).ck) :
    Calls Try.prog 5 #[.int .i64 x, .slice pu n cu] W fun e w' => e = .returned (.bool true) ∧ Below W.heap.size W w' := by
  have HX := hide hops; have HO := hide hop
  clear hops hop
  go_enter Try.func5, Try.ntmps5
  go_wp2_with fail
  refine (begun_ok x hx0 hx1 W).mono ?_
  rintro e w1 ⟨rfl, hd1, hb1⟩
  have D1 := hide hd1
  have B1 := hide hb1
  clear hd1 hb1
  go_wp2_with fail
  refine (first_ok w1).mono ?_
  rintro e w2 ⟨rfl, hb2⟩
  have D2 := hide ((unhide D1).below hb2)
  have B2 : Hid (Below W.heap.size W w2) := (unhide B1).trans (hb2.mono (unhide B1).size)
  clear hb2
  go_wp2_with fail
  go_loopw [7, 8] (KRel W n) (fun _ u _ => n - (intOf u).toNat)
  case atStart =>
    exact ⟨0, _, _, [], fun _ => False, rfl, Nat.zero_le _, by omega, unhide D2, Inv.new (capP_can x) (by decide), (fun q e => by omega), unhide B2, book_nil (fun q h => h.elim), List.Perm.refl _, (fun q h => h.elim), (fun q h => h.elim)⟩
  case round =>
    obtain ⟨i, ⟨cap, A, fu, dn⟩, S, l, U, rfl, hin, hi4, hD, hI, hS, hB, hbk, hpm, hU, hUS⟩ := hrel
    obtain ⟨pv, cv, rfl⟩ := hbk.form
    obtain ⟨LL, hLL⟩ : ∃ LL, LL = l.length := ⟨_, rfl⟩
    rw [← hLL] at hbk ⊢
    have HD := hide hD; have HI := hide hI; have HS := hide hS; have HB := hide hB; have HBK := hide hbk; have HPM := hide hpm; have HUW := hide hU; have HUS := hide hUS; have HLL := hide hLL
    clear hD hI hS hB hbk hpm hU hUS hLL
    by_cases hlt : i < n ∧ i < 400
    · obtain ⟨h1, h2⟩ := hlt
      have i1 : (i : Int) < (n : Int) := by omega
      have i2 : (i : Int) < 400 := by omega
      have i0 : (0 : Int) ≤ (i : Int) := by omega
      rcases unhide HX with ⟨h0, _⟩ | ⟨b, off, c, hv, hbl, hcs⟩
      · omega
      injection hv with hv _ hc
      subst hv hc
      have hk : ∀ j u, (X i).cells[j]? = some u → wr.cell? ⟨b, off + i * 12 + j, none⟩ = some u := fun j u hj => by
        have h3 := hcs i h1 j u hj
        rw [← Nat.add_assoc] at h3
        exact ((unhide HB).cell (p := ⟨b, off + i * 12 + j, none⟩) (World.block_lt_of_cell? W _ h3)).trans h3
      have ho := ((unhide HO) i h1).mono (unhide HB)
      have hox := fun w8 hb => ((unhide HO) i h1).mono (W' := w8) hb
      generalize X i = xi at hk ho hox
      obtain ⟨⟨kind, nm, to, bs, nn, ks⟩, dk, at0, pb, cb, pk, ck, c1, pf, lf, cf, f1, b1⟩ := xi
      have k0 : wr.cell? ⟨b, off + i * 12, none⟩ = some (.int .i64 dk) := hk 0 _ rfl
      have k1 : wr.cell? ⟨b, off + i * 12 + 1, none⟩ = some (.int .i64 kind) := hk 1 _ rfl
      have k2 : wr.cell? ⟨b, off + i * 12 + 2, none⟩ = some (.string nm) := hk 2 _ rfl
      have k3 : wr.cell? ⟨b, off + i * 12 + 3, none⟩ = some (.string to) := hk 3 _ rfl
      have k4 : wr.cell? ⟨b, off + i * 12 + 4, none⟩ = some (.slice pb bs.length cb) := hk 4 _ rfl
      have k5 : wr.cell? ⟨b, off + i * 12 + 5, none⟩ = some (.int .i64 at0) := hk 5 _ rfl
      have k6 : wr.cell? ⟨b, off + i * 12 + 6, none⟩ = some (.int .i64 nn) := hk 6 _ rfl
      have k7 : wr.cell? ⟨b, off + i * 12 + 7, none⟩ = some (.slice pk ks.length ck) := hk 7 _ rfl
      have k8 : wr.cell? ⟨b, off + i * 12 + 8, none⟩ = some (.int .i64 c1) := hk 8 _ rfl
      have k9 : wr.cell? ⟨b, off + i * 12 + 9, none⟩ = some (.slice pf lf cf) := hk 9 _ rfl
      have k10 : wr.cell? ⟨b, off + i * 12 + 10, none⟩ = some (.int .i64 f1) := hk 10 _ rfl
      have k11 : wr.cell? ⟨b, off + i * 12 + 11, none⟩ = some (.bool b1) := hk 11 _ rfl
      have HOP := hide ho
      clear hk ho
      have HO' : Hid (∀ w8, Below W.heap.size W w8 → OpAt w8 ⟨kind, nm, to, bs, nn, ks⟩ pb cb pk ck) := hox
      clear hox
      cases ha : actB kind with
      | false =>
        go_wp2_with (first | (go_at_call 8; refine (isAct_ok _ _).mono ?_; rintro e wn ⟨rfl, hw⟩; rw [hw, ha]; clear hw wn))
        exact ⟨⟨i + 1, ⟨cap, A, fu, dn⟩, S, l, U, by go_num, by omega, by omega, DiskOK.more ((unhide HD).below (bal (Below.refl _ _) _)) (by omega), unhide HI, unhide HS, (unhide HB).trans ((bal (Below.refl _ _) _).mono (unhide HB).size), (unhide HBK).below (bal (Below.refl _ _) _), unhide HPM, unhide HUW, unhide HUS⟩, by simp [intOf]; omega⟩
      | true =>
        go_wp2_with (first | (go_at_call 8; refine (isAct_ok _ _).mono ?_; rintro e wn ⟨rfl, hw⟩; rw [hw, ha]; clear hw wn))
        obtain ⟨w6, hw6⟩ : ∃ w6, w6 = wr.alloc (.cells #[.int .i64 dk, .int .i64 kind, .string nm, .string to, .slice pb bs.length cb, .int .i64 at0, .int .i64 nn, .slice pk ks.length ck, .int .i64 c1, .slice pf lf cf, .int .i64 f1, .bool b1] 33) := ⟨_, rfl⟩
        have b6 : Below wr.heap.size wr w6 := by rw [hw6]; exact bal (Below.refl _ _) _
        have z6 : w6.heap.size = wr.heap.size + 1 := by rw [hw6]; simp
        have q0 : w6.cell? ⟨wr.heap.size, 0, none⟩ = some (.int .i64 dk) := by rw [hw6, World.cell?_alloc_mark]; rfl
        have q1 : w6.cell? ⟨wr.heap.size, 1, none⟩ = some (.int .i64 kind) := by rw [hw6, World.cell?_alloc_mark]; rfl
        have q2 : w6.cell? ⟨wr.heap.size, 2, none⟩ = some (.string nm) := by rw [hw6, World.cell?_alloc_mark]; rfl
        have q3 : w6.cell? ⟨wr.heap.size, 3, none⟩ = some (.string to) := by rw [hw6, World.cell?_alloc_mark]; rfl
        have q4 : w6.cell? ⟨wr.heap.size, 4, none⟩ = some (.slice pb bs.length cb) := by rw [hw6, World.cell?_alloc_mark]; rfl
        have q5 : w6.cell? ⟨wr.heap.size, 5, none⟩ = some (.int .i64 at0) := by rw [hw6, World.cell?_alloc_mark]; rfl
        have q6 : w6.cell? ⟨wr.heap.size, 6, none⟩ = some (.int .i64 nn) := by rw [hw6, World.cell?_alloc_mark]; rfl
        have q7 : w6.cell? ⟨wr.heap.size, 7, none⟩ = some (.slice pk ks.length ck) := by rw [hw6, World.cell?_alloc_mark]; rfl
        have q8 : w6.cell? ⟨wr.heap.size, 8, none⟩ = some (.int .i64 c1) := by rw [hw6, World.cell?_alloc_mark]; rfl
        have q9 : w6.cell? ⟨wr.heap.size, 9, none⟩ = some (.slice pf lf cf) := by rw [hw6, World.cell?_alloc_mark]; rfl
        have q10 : w6.cell? ⟨wr.heap.size, 10, none⟩ = some (.int .i64 f1) := by rw [hw6, World.cell?_alloc_mark]; rfl
        have q11 : w6.cell? ⟨wr.heap.size, 11, none⟩ = some (.bool b1) := by rw [hw6, World.cell?_alloc_mark]; rfl
        rw [← hw6]
        clear hw6 k0 k1 k2 k3 k4 k5 k6 k7 k8 k9 k10 k11
        have OP6 := hide ((unhide HOP).mono b6)
        have D6 := hide ((unhide HD).below b6)
        have B6 : Hid (Below W.heap.size W w6) := (unhide HB).trans (b6.mono (unhide HB).size)
        have K6 := hide ((unhide HBK).below b6)
        have SL : Hid (∀ q, S q → q < wr.heap.size) := (unhide HD).sl
        clear b6
        have HI' := acts_inv (o := ⟨kind, nm, to, bs, nn, ks⟩) (unhide HI)
        have HA := acts_ok (unhide D6) (by omega) (unhide HI) ⟨kind, nm, to, bs, nn, ks⟩ dk at0 pb cb pk ck c1 f1 pf lf cf b1 ha (unhide OP6)
        have HNA : Hid (∀ w8, Below W.heap.size W w8 → BookAt w8 U (.slice pv LL cv) l → 3 ≤ kind → kind ≤ 7 → (actK ⟨kind, nm, to, bs, nn, ks⟩ ⟨cap, A, fu, dn⟩).2 = 0 → Calls Try.prog 19 #[.slice pv LL cv, opV ⟨kind, nm, to, bs, nn, ks⟩ dk at0 pb cb pk ck c1 pf lf cf f1 b1] w8 fun e w' => ∃ v', e = .returned v' ∧ ∃ U' l', BookAt w' U' v' l' ∧ l'.Perm (actK ⟨kind, nm, to, bs, nn, ks⟩ ⟨cap, A, fu, dn⟩).1.A ∧ Sep w8 w' U U') := fun w8 hb hk8 h3 h7 h0 => noted_any hk8 (unhide HI) (unhide HPM) ⟨kind, nm, to, bs, nn, ks⟩ dk at0 pb cb pk ck c1 f1 pf lf cf b1 ((unhide HO') w8 hb) h3 h7 h0
        have HSAME : Hid ((actK ⟨kind, nm, to, bs, nn, ks⟩ ⟨cap, A, fu, dn⟩).2 ≠ 0 ∨ kind = 12 → kind ≠ 14 → (actK ⟨kind, nm, to, bs, nn, ks⟩ ⟨cap, A, fu, dn⟩).1.A = A) := fun h h' => act_same (o := ⟨kind, nm, to, bs, nn, ks⟩) ha h h'
        have HFND : Hid (3 ≤ kind → kind ≤ 7 → (actK ⟨kind, nm, to, bs, nn, ks⟩ ⟨cap, A, fu, dn⟩).2 = 0 → (kind = 3 → idxF (prS nm).data.toList l 0 = -1) ∧ (kind ≠ 3 → ∃ j : Nat, idxF (prS nm).data.toList l 0 = (j : Int))) := fun h3 h7 h0 => by
          have hf := act_find (o := ⟨kind, nm, to, bs, nn, ks⟩) (unhide HPM) (unhide HI).ord h3 h7 h0
          refine ⟨fun h => (hf.1 h).1, fun h => ?_⟩
          obtain ⟨j, _, h1, _⟩ := hf.2 h
          exact ⟨j, h1⟩
        have H14 : Hid (kind = 14 → actK ⟨kind, nm, to, bs, nn, ks⟩ ⟨cap, A, fu, dn⟩ = (crashK ks ⟨cap, A, fu, dn⟩, 0)) := fun h => by rw [h]; exact act14 _ _ _ _ _ _
        have hks := act_kinds ha
        generalize actK ⟨kind, nm, to, bs, nn, ks⟩ ⟨cap, A, fu, dn⟩ = R at HI' HA HNA HSAME HFND H14
        obtain ⟨⟨cap', A', fu', dn'⟩, er⟩ := R
        have HI' := hide HI'
        refine HA.mono ?_
        clear HA
        rintro e w7 ⟨rfl, S7, hd7, hs7⟩
        dsimp only at hd7 ⊢
        have z7 := hs7.size
        have n1 : ¬ S wr.heap.size := fun h' => by have := unhide SL _ h'; omega
        have qa0 := sep_ne hs7 q0 n1
        have qa1 := sep_ne hs7 q1 n1
        have qa2 := sep_ne hs7 q2 n1
        have qa3 := sep_ne hs7 q3 n1
        have qa4 := sep_ne hs7 q4 n1
        have qa5 := sep_ne hs7 q5 n1
        have qa6 := sep_ne hs7 q6 n1
        have qa7 := sep_ne hs7 q7 n1
        have qa8 := sep_ne hs7 q8 n1
        have qa9 := sep_ne hs7 q9 n1
        have qa10 := sep_ne hs7 q10 n1
        have qa11 := sep_ne hs7 q11 n1
        have D7 := hide hd7
        have S7' : Hid (∀ q, S7 q → W.heap.size ≤ q) := hs7.from (unhide HS) (unhide B6).size
        have B7 : Hid (Below W.heap.size W w7) := (unhide B6).trans (hs7.below (unhide HS) (unhide B6).size)
        have K7 := hide ((unhide K6).sep hs7 (unhide HUS))
        have UD7 : Hid (∀ q, U q → ¬ S7 q) := hs7.apart (unhide HUS) (unhide K6).lt
        have hkcases : kind = 3 ∨ kind = 4 ∨ kind = 5 ∨ kind = 6 ∨ kind = 7 ∨ kind = 12 ∨ kind = 14 := hks
        clear hd7 hs7 n1 hks q0 q1 q2 q3 q4 q5 q6 q7 q8 q9 q10 q11
        by_cases hk14 : kind = 14
        · have hR := unhide H14 hk14
          subst hk14
          injection hR with hR1 hR2
          injection hR1 with e1 e2 e3 e4
          subst hR2 e1 e3 e4
          have HA14 := hide e2
          clear e2
          go_wp2_with fail
          obtain ⟨mo8, m8, es8, hD8⟩ := unhide D7
          refine (state_ok hD8 (unhide HI')).mono ?_
          rintro e w8 ⟨⟨v8, he8, fb8, hfb8, hfr8⟩, hb8⟩
          have hfr8 : FilesRow w8 fb8 w8.heap.size v8 A' := hfr8
          obtain ⟨p8, c8, rfl⟩ := hfr8.form
          have he8 : e = .returned (.agg #[.int .i64 cap', .slice p8 A'.length c8, .int .i64 (-1), .bool false]) := he8
          subst he8
          have z8 := hb8.size
          have D8 := hide ((unhide D7).below hb8)
          have K8 := hide ((unhide K7).below hb8)
          have B8 : Hid (Below W.heap.size W w8) := (unhide B7).trans (hb8.mono (unhide B7).size)
          have F8 : Hid (FilesRow w8 fb8 w8.heap.size (.slice p8 A'.length c8) (cutTo ks A A.length)) := by rw [← unhide HA14]; exact hfr8
          have UB8 : Hid (∀ q, U q → q < fb8) := fun q hq => by have := (unhide K7).lt q hq; omega
          clear hb8 hfr8 hD8
          have HST := stays_ok (unhide K8) ks (unhide HI) (unhide HPM) (unhide F8) (Nat.le_refl _) (unhide UB8)
          have HST := hide HST
          go_wp2_with fail
          refine (unhide HST).mono ?_
          rintro e w9 ⟨rfl, l9, U9, hk9, hp9, hs9⟩
          have z9 := hs9.size
          have D9 := hide ((unhide D8).sep hs9 (fun q hq hq' => unhide UD7 q hq' hq))
          have K9 := hide hk9
          have P9 : Hid (l9.Perm A') := by rw [unhide HA14]; exact hp9
          have UW9 : Hid (∀ q, U9 q → W.heap.size ≤ q) := hs9.from (unhide HUW) (unhide B8).size
          have UD9 : Hid (∀ q, U9 q → ¬ S7 q) := fun q hq hq' => (hs9.apart (T := S7) (fun q h h' => unhide UD7 q h' h) (unhide D8).sl) q hq' hq
          have B9 : Hid (Below W.heap.size W w9) := (unhide B8).trans (hs9.below (unhide HUW) (unhide B8).size)
          clear hk9 hp9 hs9
          go_wp2_with fail
          refine (shows_any (unhide D9) (unhide HI') (unhide K9) (unhide P9)).mono ?_
          rintro e wz ⟨rfl, hbz⟩
          have BZ := hide hbz
          clear hbz
          go_wp2_with fail
          exact ⟨⟨i + 1, ⟨cap', A', -1, false⟩, S7, _, U9, by go_num, by omega, by omega, DiskOK.more ((unhide D9).below (unhide BZ)) (by omega), unhide HI', unhide S7', (unhide B9).trans ((unhide BZ).mono (unhide B9).size), (unhide K9).below (unhide BZ), unhide P9, unhide UW9, unhide UD9⟩, by simp [intOf]; omega⟩
        · by_cases hgo : er = 0 ∧ kind ≠ 12
          · obtain ⟨he0, hk12⟩ := hgo
            have hk3' : 3 ≤ kind ∧ kind ≤ 7 := by omega
            subst he0
            have hk3a := hk3'.1
            have hk3b := hk3'.2
            have hfd := (unhide HFND) hk3a hk3b rfl
            by_cases hk3 : kind = 3
            · have hidx := hfd.1 hk3
              subst hk3
              clear hfd hk14 hk12 hkcases hk3'
              go_wp2_with fail
              refine (pressed_ok nm (unhide HOP).nm w7).mono ?_
              rintro e w8 ⟨rfl, hb8⟩
              have z8 := hb8.size
              have qb0 := keep1 hb8 (by omega) qa0
              have qb1 := keep1 hb8 (by omega) qa1
              have qb2 := keep1 hb8 (by omega) qa2
              have qb3 := keep1 hb8 (by omega) qa3
              have qb4 := keep1 hb8 (by omega) qa4
              have qb5 := keep1 hb8 (by omega) qa5
              have qb6 := keep1 hb8 (by omega) qa6
              have qb7 := keep1 hb8 (by omega) qa7
              have qb8 := keep1 hb8 (by omega) qa8
              have qb9 := keep1 hb8 (by omega) qa9
              have qb10 := keep1 hb8 (by omega) qa10
              have qb11 := keep1 hb8 (by omega) qa11
              have D8 := hide ((unhide D7).below hb8)
              have K8 := hide ((unhide K7).below hb8)
              have B8 : Hid (Below W.heap.size W w8) := (unhide B7).trans (hb8.mono (unhide B7).size)
              clear hb8 qa0 qa1 qa2 qa3 qa4 qa5 qa6 qa7 qa8 qa9 qa10 qa11
              have HFI := find18_ok (unhide K8) (by have h1 := (unhide HPM).length_eq; have h2 := (unhide HI).many; simp only at h1 h2; omega) (prS nm)
              rw [hidx] at HFI
              clear hidx
              have HFI := hide HFI
              have HN8 := hide ((unhide HNA) w8 (unhide B8) (unhide K8) hk3a hk3b (by first | trivial | rfl))
              go_wp2_with (first | (go_at_call 18; refine (unhide HFI).mono ?_; rintro e wn ⟨rfl, hw⟩; rw [hw]; clear hw wn))
              refine (unhide HN8).mono ?_
              rintro e w9 ⟨v9, rfl, U9, l9, hk9, hp9, hs9⟩
              have z9 := hs9.size
              have D9 := hide ((unhide D8).sep hs9 (fun q hq hq' => unhide UD7 q hq' hq))
              have K9 := hide hk9
              have P9 : Hid (l9.Perm A') := hp9
              have UW9 : Hid (∀ q, U9 q → W.heap.size ≤ q) := hs9.from (unhide HUW) (unhide B8).size
              have UD9 : Hid (∀ q, U9 q → ¬ S7 q) := fun q hq hq' => (hs9.apart (T := S7) (fun q h h' => unhide UD7 q h' h) (unhide D8).sl) q hq' hq
              have B9 : Hid (Below W.heap.size W w9) := (unhide B8).trans (hs9.below (unhide HUW) (unhide B8).size)
              clear hk9 hp9 hs9
              go_wp2_with fail
              refine (shows_any (unhide D9) (unhide HI') (unhide K9) (unhide P9)).mono ?_
              rintro e wz ⟨rfl, hbz⟩
              have BZ := hide hbz
              clear hbz
              go_wp2_with fail
              exact ⟨⟨i + 1, ⟨cap', A', fu', dn'⟩, S7, _, U9, by go_num, by omega, by omega, DiskOK.more ((unhide D9).below (unhide BZ)) (by omega), unhide HI', unhide S7', (unhide B9).trans ((unhide BZ).mono (unhide B9).size), (unhide K9).below (unhide BZ), unhide P9, unhide UW9, unhide UD9⟩, by simp [intOf]; omega⟩
            · obtain ⟨j, hidx⟩ := hfd.2 hk3
              have jj : ¬ (j : Int) < 0 := by omega
              have hk3f : (kind == 3) = false := by simpa using hk3
              clear hfd hkcases hk3'
              go_wp2_with fail
              refine (pressed_ok nm (unhide HOP).nm w7).mono ?_
              rintro e w8 ⟨rfl, hb8⟩
              have z8 := hb8.size
              have qb0 := keep1 hb8 (by omega) qa0
              have qb1 := keep1 hb8 (by omega) qa1
              have qb2 := keep1 hb8 (by omega) qa2
              have qb3 := keep1 hb8 (by omega) qa3
              have qb4 := keep1 hb8 (by omega) qa4
              have qb5 := keep1 hb8 (by omega) qa5
              have qb6 := keep1 hb8 (by omega) qa6
              have qb7 := keep1 hb8 (by omega) qa7
              have qb8 := keep1 hb8 (by omega) qa8
              have qb9 := keep1 hb8 (by omega) qa9
              have qb10 := keep1 hb8 (by omega) qa10
              have qb11 := keep1 hb8 (by omega) qa11
              have D8 := hide ((unhide D7).below hb8)
              have K8 := hide ((unhide K7).below hb8)
              have B8 : Hid (Below W.heap.size W w8) := (unhide B7).trans (hb8.mono (unhide B7).size)
              clear hb8 qa0 qa1 qa2 qa3 qa4 qa5 qa6 qa7 qa8 qa9 qa10 qa11
              have HFI := find18_ok (unhide K8) (by have h1 := (unhide HPM).length_eq; have h2 := (unhide HI).many; simp only at h1 h2; omega) (prS nm)
              rw [hidx] at HFI
              clear hidx
              have HFI := hide HFI
              have HN8 := hide ((unhide HNA) w8 (unhide B8) (unhide K8) hk3a hk3b (by first | trivial | rfl))
              go_wp2_with (first | (go_at_call 18; refine (unhide HFI).mono ?_; rintro e wn ⟨rfl, hw⟩; rw [hw]; clear hw wn))
              refine (unhide HN8).mono ?_
              rintro e w9 ⟨v9, rfl, U9, l9, hk9, hp9, hs9⟩
              have z9 := hs9.size
              have D9 := hide ((unhide D8).sep hs9 (fun q hq hq' => unhide UD7 q hq' hq))
              have K9 := hide hk9
              have P9 : Hid (l9.Perm A') := hp9
              have UW9 : Hid (∀ q, U9 q → W.heap.size ≤ q) := hs9.from (unhide HUW) (unhide B8).size
              have UD9 : Hid (∀ q, U9 q → ¬ S7 q) := fun q hq hq' => (hs9.apart (T := S7) (fun q h h' => unhide UD7 q h' h) (unhide D8).sl) q hq' hq
              have B9 : Hid (Below W.heap.size W w9) := (unhide B8).trans (hs9.below (unhide HUW) (unhide B8).size)
              clear hk9 hp9 hs9
              go_wp2_with fail
              refine (shows_any (unhide D9) (unhide HI') (unhide K9) (unhide P9)).mono ?_
              rintro e wz ⟨rfl, hbz⟩
              have BZ := hide hbz
              clear hbz
              go_wp2_with fail
              exact ⟨⟨i + 1, ⟨cap', A', fu', dn'⟩, S7, _, U9, by go_num, by omega, by omega, DiskOK.more ((unhide D9).below (unhide BZ)) (by omega), unhide HI', unhide S7', (unhide B9).trans ((unhide BZ).mono (unhide B9).size), (unhide K9).below (unhide BZ), unhide P9, unhide UW9, unhide UD9⟩, by simp [intOf]; omega⟩
          · have hA : A' = A := (unhide HSAME) (by show er ≠ 0 ∨ kind = 12; omega) hk14
            have PX : Hid (l.Perm A') := by rw [hA]; exact unhide HPM
            clear hA
            have hg : (er = 0 ∧ kind = 12) ∨ er ≠ 0 := by omega
            rcases hg with ⟨rfl, rfl⟩ | her
            · go_wp2_with fail
              refine (shows_any (unhide D7) (unhide HI') (unhide K7) (unhide PX)).mono ?_
              rintro e wz ⟨rfl, hbz⟩
              have BZ := hide hbz
              clear hbz
              go_wp2_with fail
              exact ⟨⟨i + 1, ⟨cap', A', fu', dn'⟩, S7, _, U, by go_num, by omega, by omega, DiskOK.more ((unhide D7).below (unhide BZ)) (by omega), unhide HI', unhide S7', (unhide B7).trans ((unhide BZ).mono (unhide B7).size), (unhide K7).below (unhide BZ), unhide PX, unhide HUW, unhide UD7⟩, by simp [intOf]; omega⟩
            · go_wp2_with fail
              refine (shows_any (unhide D7) (unhide HI') (unhide K7) (unhide PX)).mono ?_
              rintro e wz ⟨rfl, hbz⟩
              have BZ := hide hbz
              clear hbz
              go_wp2_with fail
              exact ⟨⟨i + 1, ⟨cap', A', fu', dn'⟩, S7, _, U, by go_num, by omega, by omega, DiskOK.more ((unhide D7).below (unhide BZ)) (by omega), unhide HI', unhide S7', (unhide B7).trans ((unhide BZ).mono (unhide B7).size), (unhide K7).below (unhide BZ), unhide PX, unhide HUW, unhide UD7⟩, by simp [intOf]; omega⟩
    · by_cases h1 : i < n
      · have i1 : (i : Int) < (n : Int) := by omega
        have i2 : ¬ (i : Int) < 400 := by omega
        clear hlt
        go_wp2_with fail
        go_ret
        exact ⟨rfl, unhide HB⟩
      · have i1 : ¬ (i : Int) < (n : Int) := by omega
        clear hlt
        go_wp2_with fail
        go_ret
        exact ⟨rfl, unhide HB⟩
end Go.Proofs.Ytpeohbkigkfcgaa
