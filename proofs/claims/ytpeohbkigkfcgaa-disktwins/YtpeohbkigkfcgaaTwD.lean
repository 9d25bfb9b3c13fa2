/- DiskTwins (4): the walk. -/
import Derived.Test.YtpeohbkigkfcgaaTwB
import Derived.Test.YtpeohbkigkfcgaaTwC
namespace Go.Proofs.Ytpeohbkigkfcgaa
open Go Go.Shelf Go.ChangeShapes Go.WideShapes Go.ChangeAt Go.RowKit Go.Maps Go.Sort
set_option linter.unusedVariables false
/-- what holds at the head of each round -/
def TRel (W : World) (n : Nat) (ut ui : Value) (wr : World) : Prop :=
  ∃ (i : Nat) (K : Dk) (S : Nat → Prop), ui = .int .i64 (i : Int) ∧ i ≤ n ∧ i ≤ 400 ∧ DiskOK wr W.heap.size (i * 64) K S ∧ Inv K ∧ DnF K ∧ (∀ q, S q → W.heap.size ≤ q) ∧ Below W.heap.size W wr ∧
    (ut = .pointer none ∨ ∃ (t : Nat) (T : Nat → Prop), ut = .pointer (some ⟨t, 0, none⟩) ∧ DiskOK wr t ((i + 1) * 64) K T ∧ (∀ q, T q → W.heap.size ≤ q) ∧ (∀ q, T q → ¬ S q))
set_option maxRecDepth 100000 in
set_option maxHeartbeats 4000000 in
theorem twins_walk (x : Int) (hx0 : -9223372036854775808 ≤ x) (hx1 : x ≤ 9223372036854775807) (n : Nat) (pu : Option Addr) (cu : Nat) (y : Int) (X : Nat → OpX) (W : World) (hn : n ≤ maxLen) (hops : OpsAt W (.slice pu n cu) n X) (hop : ∀ i, i < n → OpAt W (X i).o (X i).pb (X i).cb (X i).pk (X i).ck) :
    Calls Try.prog 4 #[.int .i64 x, .slice pu n cu, .int .i64 y] W fun e w' => e = .returned (.bool true) ∧ Below W.heap.size W w' := by
  have HX := hide hops; have HO := hide hop
  clear hops hop
  go_enter Try.func4, Try.ntmps4
  go_wp2_with fail
  refine (begun_ok x hx0 hx1 W).mono ?_
  rintro e w1 ⟨rfl, hd1, hb1⟩
  have D1 := hide hd1
  have B1 := hide hb1
  clear hd1 hb1
  go_wp2_with fail
  refine (first_ok w1).mono ?_
  rintro e w2 ⟨rfl, hb2⟩
  have D2 := hide ((unhide D1).below hb2)
  have B2 : Hid (Below W.heap.size W w2) := (unhide B1).trans (hb2.mono (unhide B1).size)
  clear hb2
  go_wp2_with fail
  go_loopw [9, 10] (TRel W n) (fun _ u _ => n - (intOf u).toNat)
  case atStart =>
    exact ⟨0, _, _, rfl, Nat.zero_le _, by omega, unhide D2, Inv.new (capP_can x) (by decide), (fun h => by cases h), (fun q e => by omega), unhide B2, .inl rfl⟩
  case round =>
    obtain ⟨i, ⟨cap, A, fu, dn⟩, S, rfl, hin, hi4, hD, hI, hdn, hS, hB, ht⟩ := hrel
    have HD := hide hD; have HI := hide hI; have HDN := hide hdn; have HS := hide hS; have HB := hide hB
    clear hD hI hdn hS hB
    by_cases hlt : i < n ∧ i < 400
    · obtain ⟨h1, h2⟩ := hlt
      have i1 : (i : Int) < (n : Int) := by omega
      have i2 : (i : Int) < 400 := by omega
      have i0 : (0 : Int) ≤ (i : Int) := by omega
      rcases unhide HX with ⟨h0, _⟩ | ⟨b, off, c, hv, hbl, hcs⟩
      · omega
      injection hv with hv _ hc
      subst hv hc
      by_cases hy : y = (i : Int)
      · subst hy
        clear ht
        go_wp2_with fail
        have SLr : Hid (∀ q, S q → q < wr.heap.size) := (unhide HD).sl
        obtain ⟨mo3, m3, es3, hD3⟩ := unhide HD
        refine (state_ok hD3 (unhide HI)).mono ?_
        rintro e w3 ⟨⟨v3, he3, fb3, hfb3, hfr3⟩, hb3⟩
        have hfr3 : FilesRow w3 fb3 w3.heap.size v3 A := hfr3
        obtain ⟨p3, c3, rfl⟩ := hfr3.form
        have he3 : e = .returned (.agg #[.int .i64 cap, .slice p3 A.length c3, .int .i64 fu, .bool dn]) := he3
        subst he3
        have z3 := hb3.size
        have D3 := hide ((unhide HD).below hb3)
        have B3 : Hid (Below W.heap.size W w3) := (unhide HB).trans (hb3.mono (unhide HB).size)
        have F3 := hide hfr3
        clear hb3 hfr3 hD3
        go_wp2_with fail
        refine (from_ok (unhide F3) (Nat.le_refl _) (unhide HI) (unhide HDN)).mono ?_
        rintro e w5 ⟨t, rfl, T, ht5, hT5, hb5⟩
        have z5 := hb5.size
        have DX := hide ((unhide D3).below hb5)
        have TX := hide (DiskOK.more ht5 (N' := (i + 1) * 64) (by omega))
        have BX : Hid (Below W.heap.size W w5) := (unhide B3).trans (hb5.mono (unhide B3).size)
        have TS : Hid (∀ q, T q → W.heap.size ≤ q) := fun q hq => Nat.le_trans (unhide B3).size (hT5 q hq)
        have TD : Hid (∀ q, T q → ¬ S q) := fun q hq hq' => by have h1 := hT5 q hq; have h2 := unhide SLr q hq'; omega
        clear hb5 ht5 hT5
        have hk : ∀ j u, (X i).cells[j]? = some u → w5.cell? ⟨b, off + i * 12 + j, none⟩ = some u := fun j u hj => by
          have h3 := hcs i h1 j u hj
          rw [← Nat.add_assoc] at h3
          exact ((unhide BX).cell (p := ⟨b, off + i * 12 + j, none⟩) (World.block_lt_of_cell? W _ h3)).trans h3
        have ho := ((unhide HO) i h1).mono (unhide BX)
        have hox := fun w8 hb => ((unhide HO) i h1).mono (W' := w8) hb
        generalize X i = xi at hk ho hox
        obtain ⟨⟨kind, nm, to, bs, nn, ks⟩, dk, at0, pb, cb, pk, ck, c1, pf, lf, cf, f1, b1⟩ := xi
        have k0 : w5.cell? ⟨b, off + i * 12, none⟩ = some (.int .i64 dk) := hk 0 _ rfl
        have k1 : w5.cell? ⟨b, off + i * 12 + 1, none⟩ = some (.int .i64 kind) := hk 1 _ rfl
        have k2 : w5.cell? ⟨b, off + i * 12 + 2, none⟩ = some (.string nm) := hk 2 _ rfl
        have k3 : w5.cell? ⟨b, off + i * 12 + 3, none⟩ = some (.string to) := hk 3 _ rfl
        have k4 : w5.cell? ⟨b, off + i * 12 + 4, none⟩ = some (.slice pb bs.length cb) := hk 4 _ rfl
        have k5 : w5.cell? ⟨b, off + i * 12 + 5, none⟩ = some (.int .i64 at0) := hk 5 _ rfl
        have k6 : w5.cell? ⟨b, off + i * 12 + 6, none⟩ = some (.int .i64 nn) := hk 6 _ rfl
        have k7 : w5.cell? ⟨b, off + i * 12 + 7, none⟩ = some (.slice pk ks.length ck) := hk 7 _ rfl
        have k8 : w5.cell? ⟨b, off + i * 12 + 8, none⟩ = some (.int .i64 c1) := hk 8 _ rfl
        have k9 : w5.cell? ⟨b, off + i * 12 + 9, none⟩ = some (.slice pf lf cf) := hk 9 _ rfl
        have k10 : w5.cell? ⟨b, off + i * 12 + 10, none⟩ = some (.int .i64 f1) := hk 10 _ rfl
        have k11 : w5.cell? ⟨b, off + i * 12 + 11, none⟩ = some (.bool b1) := hk 11 _ rfl
        have HOP := hide ho
        clear hk ho
        have HO' : Hid (∀ w8, Below W.heap.size W w8 → OpAt w8 ⟨kind, nm, to, bs, nn, ks⟩ pb cb pk ck) := hox
        cases ha : actB kind with
        | false =>
          go_wp2_with (first | (go_at_call 14; refine (num_ok _ _ (by omega) (by omega)).mono ?_; rintro e wn ⟨rfl, hw⟩; rw [hw]; clear hw wn) | (go_at_call 8; refine (isAct_ok _ _).mono ?_; rintro e wn ⟨rfl, hw⟩; rw [hw, ha]; clear hw wn))
          exact ⟨⟨i + 1, ⟨cap, A, fu, dn⟩, S, by go_num, by omega, by omega, DiskOK.more ((unhide DX).below (bal (Below.refl _ _) _)) (by omega), unhide HI, unhide HDN, unhide HS, (unhide BX).trans ((bal (Below.refl _ _) _).mono (unhide BX).size), .inr ⟨t, T, rfl, DiskOK.more ((unhide TX).below (bal (Below.refl _ _) _)) (by omega), unhide TS, unhide TD⟩⟩, by simp [intOf]; omega⟩
        | true =>
          go_wp2_with (first | (go_at_call 14; refine (num_ok _ _ (by omega) (by omega)).mono ?_; rintro e wn ⟨rfl, hw⟩; rw [hw]; clear hw wn) | (go_at_call 8; refine (isAct_ok _ _).mono ?_; rintro e wn ⟨rfl, hw⟩; rw [hw, ha]; clear hw wn))
          obtain ⟨w6, hw6⟩ : ∃ w6, w6 = w5.alloc (.cells #[.int .i64 dk, .int .i64 kind, .string nm, .string to, .slice pb bs.length cb, .int .i64 at0, .int .i64 nn, .slice pk ks.length ck, .int .i64 c1, .slice pf lf cf, .int .i64 f1, .bool b1] 33) := ⟨_, rfl⟩
          have b6 : Below w5.heap.size w5 w6 := by rw [hw6]; exact bal (Below.refl _ _) _
          have z6 : w6.heap.size = w5.heap.size + 1 := by rw [hw6]; simp
          have q0 : w6.cell? ⟨w5.heap.size, 0, none⟩ = some (.int .i64 dk) := by rw [hw6, World.cell?_alloc_mark]; rfl
          have q1 : w6.cell? ⟨w5.heap.size, 1, none⟩ = some (.int .i64 kind) := by rw [hw6, World.cell?_alloc_mark]; rfl
          have q2 : w6.cell? ⟨w5.heap.size, 2, none⟩ = some (.string nm) := by rw [hw6, World.cell?_alloc_mark]; rfl
          have q3 : w6.cell? ⟨w5.heap.size, 3, none⟩ = some (.string to) := by rw [hw6, World.cell?_alloc_mark]; rfl
          have q4 : w6.cell? ⟨w5.heap.size, 4, none⟩ = some (.slice pb bs.length cb) := by rw [hw6, World.cell?_alloc_mark]; rfl
          have q5 : w6.cell? ⟨w5.heap.size, 5, none⟩ = some (.int .i64 at0) := by rw [hw6, World.cell?_alloc_mark]; rfl
          have q6 : w6.cell? ⟨w5.heap.size, 6, none⟩ = some (.int .i64 nn) := by rw [hw6, World.cell?_alloc_mark]; rfl
          have q7 : w6.cell? ⟨w5.heap.size, 7, none⟩ = some (.slice pk ks.length ck) := by rw [hw6, World.cell?_alloc_mark]; rfl
          have q8 : w6.cell? ⟨w5.heap.size, 8, none⟩ = some (.int .i64 c1) := by rw [hw6, World.cell?_alloc_mark]; rfl
          have q9 : w6.cell? ⟨w5.heap.size, 9, none⟩ = some (.slice pf lf cf) := by rw [hw6, World.cell?_alloc_mark]; rfl
          have q10 : w6.cell? ⟨w5.heap.size, 10, none⟩ = some (.int .i64 f1) := by rw [hw6, World.cell?_alloc_mark]; rfl
          have q11 : w6.cell? ⟨w5.heap.size, 11, none⟩ = some (.bool b1) := by rw [hw6, World.cell?_alloc_mark]; rfl
          rw [← hw6]
          clear hw6 k0 k1 k2 k3 k4 k5 k6 k7 k8 k9 k10 k11
          have OP6 := hide ((unhide HOP).mono b6)
          have D6 := hide ((unhide DX).below b6)
          have B6 : Hid (Below W.heap.size W w6) := (unhide BX).trans (b6.mono (unhide BX).size)
          have SL : Hid (∀ q, S q → q < w5.heap.size) := (unhide DX).sl
          have T6 := hide ((unhide TX).below b6)
          have TL : Hid (∀ q, T q → q < w6.heap.size) := (unhide T6).sl
          clear b6
          have HI' := acts_inv (o := ⟨kind, nm, to, bs, nn, ks⟩) (unhide HI)
          have HDN' := dn_act (o := ⟨kind, nm, to, bs, nn, ks⟩) (unhide HDN)
          have HA := acts_ok (unhide D6) (by omega) (unhide HI) ⟨kind, nm, to, bs, nn, ks⟩ dk at0 pb cb pk ck c1 f1 pf lf cf b1 ha (unhide OP6)
          have HAT : ∀ w8 : World, Below W.heap.size W w8 → DiskOK w8 t ((i + 1) * 64) ⟨cap, A, fu, dn⟩ T → _ := fun w8 hb ht8 => acts_ok ht8 (by omega) (unhide HI) ⟨kind, nm, to, bs, nn, ks⟩ dk at0 pb cb pk ck c1 f1 pf lf cf b1 ha ((unhide HO') w8 hb)
          obtain ⟨R, hR⟩ : ∃ R, R = actK ⟨kind, nm, to, bs, nn, ks⟩ ⟨cap, A, fu, dn⟩ := ⟨_, rfl⟩
          rw [← hR] at HI' HDN' HA
          rw [← hR] at HAT
          have HAT := hide HAT
          clear hR
          obtain ⟨⟨cap', A', fu', dn'⟩, er⟩ := R
          have HI' := hide HI'; have HDN' := hide HDN'
          refine HA.mono ?_
          clear HA
          rintro e w7 ⟨rfl, S7, hd7, hs7⟩
          dsimp only at hd7 ⊢
          have z7 := hs7.size
          have n1 : ¬ S w5.heap.size := fun h' => by have := unhide SL _ h'; omega
          have qa0 := sep_ne hs7 q0 n1
          have qa1 := sep_ne hs7 q1 n1
          have qa2 := sep_ne hs7 q2 n1
          have qa3 := sep_ne hs7 q3 n1
          have qa4 := sep_ne hs7 q4 n1
          have qa5 := sep_ne hs7 q5 n1
          have qa6 := sep_ne hs7 q6 n1
          have qa7 := sep_ne hs7 q7 n1
          have qa8 := sep_ne hs7 q8 n1
          have qa9 := sep_ne hs7 q9 n1
          have qa10 := sep_ne hs7 q10 n1
          have qa11 := sep_ne hs7 q11 n1
          have D7 := hide hd7
          have S7' : Hid (∀ q, S7 q → W.heap.size ≤ q) := hs7.from (unhide HS) (unhide B6).size
          have B7 : Hid (Below W.heap.size W w7) := (unhide B6).trans (hs7.below (unhide HS) (unhide B6).size)
          have T7 := hide ((unhide T6).sep hs7 (unhide TD))
          have TD7 : Hid (∀ q, T q → ¬ S7 q) := hs7.apart (unhide TD) (unhide TL)
          clear hd7 hs7 n1 q0 q1 q2 q3 q4 q5 q6 q7 q8 q9 q10 q11
          go_wp2_with fail
          refine (apart_ok (d := W.heap.size) (unhide T7) (unhide HI)).mono ?_
          rintro e w8 ⟨rfl, hb8⟩
          have z8 := hb8.size
          have qb0 := keep1 hb8 (by omega) qa0
          have qb1 := keep1 hb8 (by omega) qa1
          have qb2 := keep1 hb8 (by omega) qa2
          have qb3 := keep1 hb8 (by omega) qa3
          have qb4 := keep1 hb8 (by omega) qa4
          have qb5 := keep1 hb8 (by omega) qa5
          have qb6 := keep1 hb8 (by omega) qa6
          have qb7 := keep1 hb8 (by omega) qa7
          have qb8 := keep1 hb8 (by omega) qa8
          have qb9 := keep1 hb8 (by omega) qa9
          have qb10 := keep1 hb8 (by omega) qa10
          have qb11 := keep1 hb8 (by omega) qa11
          have D8 := hide ((unhide D7).below hb8)
          have T8 := hide ((unhide T7).below hb8)
          have B8 : Hid (Below W.heap.size W w8) := (unhide B7).trans (hb8.mono (unhide B7).size)
          clear hb8 qa0 qa1 qa2 qa3 qa4 qa5 qa6 qa7 qa8 qa9 qa10 qa11
          have HA8 := (unhide HAT) w8 (unhide B8) (unhide T8)
          have HA8 := hide HA8
          go_wp2_with fail
          refine (unhide HA8).mono ?_
          rintro e w9 ⟨rfl, T9, ht9, hs9⟩
          dsimp only at ht9 ⊢
          have TL8 : Hid (∀ q, T q → q < w8.heap.size) := (unhide T8).sl
          have SL8 : Hid (∀ q, S7 q → q < w8.heap.size) := (unhide D8).sl
          have z9 := hs9.size
          have D9 := hide ((unhide D8).sep hs9 (fun q hq hq' => unhide TD7 q hq' hq))
          have T9' := hide ht9
          have TD9 : Hid (∀ q, T9 q → ¬ S7 q) := fun q hq hq' => (hs9.apart (T := S7) (fun q h h' => unhide TD7 q h' h) (unhide SL8)) q hq' hq
          have TS9 : Hid (∀ q, T9 q → W.heap.size ≤ q) := hs9.from (unhide TS) (unhide B8).size
          have B9 : Hid (Below W.heap.size W w9) := (unhide B8).trans (hs9.below (unhide TS) (unhide B8).size)
          clear ht9 hs9 qb0 qb1 qb2 qb3 qb4 qb5 qb6 qb7 qb8 qb9 qb10 qb11
          go_wp2_with fail
          obtain ⟨mo9, m9, es9, hD9⟩ := unhide D9
          refine (state_ok hD9 (unhide HI')).mono ?_
          rintro e w10 ⟨⟨v10, he10, fb10, hfb10, hfr10⟩, hb10⟩
          have hfr10 : FilesRow w10 fb10 w10.heap.size v10 A' := hfr10
          obtain ⟨p10, c10, rfl⟩ := hfr10.form
          have he10 : e = .returned (.agg #[.int .i64 cap', .slice p10 A'.length c10, .int .i64 fu', .bool dn']) := he10
          subst he10
          have z10 := hb10.size
          have T10 := hide ((unhide T9').below hb10)
          have D10 := hide ((unhide D9).below hb10)
          have B10 : Hid (Below W.heap.size W w10) := (unhide B9).trans (hb10.mono (unhide B9).size)
          have F10 := hide hfr10
          clear hb10 hfr10 hD9
          go_wp2_with fail
          obtain ⟨mo10, m10, es10, hD10⟩ := unhide T10
          refine (state_ok hD10 (unhide HI')).mono ?_
          rintro e w11 ⟨⟨v11, he11, fb11, hfb11, hfr11⟩, hb11⟩
          have hfr11 : FilesRow w11 fb11 w11.heap.size v11 A' := hfr11
          obtain ⟨p11, c11, rfl⟩ := hfr11.form
          have he11 : e = .returned (.agg #[.int .i64 cap', .slice p11 A'.length c11, .int .i64 fu', .bool dn']) := he11
          subst he11
          have z11 := hb11.size
          have T11 := hide ((unhide T10).below hb11)
          have D11 := hide ((unhide D10).below hb11)
          have B11 : Hid (Below W.heap.size W w11) := (unhide B10).trans (hb11.mono (unhide B10).size)
          have F11 := hide ((unhide F10).below (Nat.le_refl _) hb11)
          have E11 := hide hfr11
          clear hb11 hfr11 hD10
          go_wp2_with fail
          refine (same_ok cap' fu' dn' (unhide F11) (unhide E11) (by omega) (Nat.le_refl _) (unhide HI').many).mono ?_
          rintro e w12 ⟨rfl, hb12⟩
          have HB12 := hide hb12
          clear hb12
          go_wp2_with fail
          exact ⟨⟨i + 1, ⟨cap', A', fu', dn'⟩, S7, by go_num, by omega, by omega, DiskOK.more ((unhide D11).below (unhide HB12)) (by omega), unhide HI', unhide HDN', unhide S7', (unhide B11).trans ((unhide HB12).mono (unhide B11).size), .inr ⟨t, T9, rfl, DiskOK.more ((unhide T11).below (unhide HB12)) (by omega), unhide TS9, unhide TD9⟩⟩, by simp [intOf]; omega⟩
      · have hy1 : ((i : Int) == y) = false := by simp; omega
        clear hy
        rcases ht with rfl | ⟨t, T, rfl, ht⟩
        · cases hq : ((i : Int) == wrap64 ((n : Int) / 2)) with
          | true =>
            go_wp2_with fail
            have SLr : Hid (∀ q, S q → q < wr.heap.size) := (unhide HD).sl
            obtain ⟨mo3, m3, es3, hD3⟩ := unhide HD
            refine (state_ok hD3 (unhide HI)).mono ?_
            rintro e w3 ⟨⟨v3, he3, fb3, hfb3, hfr3⟩, hb3⟩
            have hfr3 : FilesRow w3 fb3 w3.heap.size v3 A := hfr3
            obtain ⟨p3, c3, rfl⟩ := hfr3.form
            have he3 : e = .returned (.agg #[.int .i64 cap, .slice p3 A.length c3, .int .i64 fu, .bool dn]) := he3
            subst he3
            have z3 := hb3.size
            have D3 := hide ((unhide HD).below hb3)
            have B3 : Hid (Below W.heap.size W w3) := (unhide HB).trans (hb3.mono (unhide HB).size)
            have F3 := hide hfr3
            clear hb3 hfr3 hD3
            go_wp2_with fail
            refine (from_ok (unhide F3) (Nat.le_refl _) (unhide HI) (unhide HDN)).mono ?_
            rintro e w5 ⟨t, rfl, T, ht5, hT5, hb5⟩
            have z5 := hb5.size
            have DX := hide ((unhide D3).below hb5)
            have TX := hide (DiskOK.more ht5 (N' := (i + 1) * 64) (by omega))
            have BX : Hid (Below W.heap.size W w5) := (unhide B3).trans (hb5.mono (unhide B3).size)
            have TS : Hid (∀ q, T q → W.heap.size ≤ q) := fun q hq => Nat.le_trans (unhide B3).size (hT5 q hq)
            have TD : Hid (∀ q, T q → ¬ S q) := fun q hq hq' => by have h1 := hT5 q hq; have h2 := unhide SLr q hq'; omega
            clear hb5 ht5 hT5
            have hk : ∀ j u, (X i).cells[j]? = some u → w5.cell? ⟨b, off + i * 12 + j, none⟩ = some u := fun j u hj => by
              have h3 := hcs i h1 j u hj
              rw [← Nat.add_assoc] at h3
              exact ((unhide BX).cell (p := ⟨b, off + i * 12 + j, none⟩) (World.block_lt_of_cell? W _ h3)).trans h3
            have ho := ((unhide HO) i h1).mono (unhide BX)
            have hox := fun w8 hb => ((unhide HO) i h1).mono (W' := w8) hb
            generalize X i = xi at hk ho hox
            obtain ⟨⟨kind, nm, to, bs, nn, ks⟩, dk, at0, pb, cb, pk, ck, c1, pf, lf, cf, f1, b1⟩ := xi
            have k0 : w5.cell? ⟨b, off + i * 12, none⟩ = some (.int .i64 dk) := hk 0 _ rfl
            have k1 : w5.cell? ⟨b, off + i * 12 + 1, none⟩ = some (.int .i64 kind) := hk 1 _ rfl
            have k2 : w5.cell? ⟨b, off + i * 12 + 2, none⟩ = some (.string nm) := hk 2 _ rfl
            have k3 : w5.cell? ⟨b, off + i * 12 + 3, none⟩ = some (.string to) := hk 3 _ rfl
            have k4 : w5.cell? ⟨b, off + i * 12 + 4, none⟩ = some (.slice pb bs.length cb) := hk 4 _ rfl
            have k5 : w5.cell? ⟨b, off + i * 12 + 5, none⟩ = some (.int .i64 at0) := hk 5 _ rfl
            have k6 : w5.cell? ⟨b, off + i * 12 + 6, none⟩ = some (.int .i64 nn) := hk 6 _ rfl
            have k7 : w5.cell? ⟨b, off + i * 12 + 7, none⟩ = some (.slice pk ks.length ck) := hk 7 _ rfl
            have k8 : w5.cell? ⟨b, off + i * 12 + 8, none⟩ = some (.int .i64 c1) := hk 8 _ rfl
            have k9 : w5.cell? ⟨b, off + i * 12 + 9, none⟩ = some (.slice pf lf cf) := hk 9 _ rfl
            have k10 : w5.cell? ⟨b, off + i * 12 + 10, none⟩ = some (.int .i64 f1) := hk 10 _ rfl
            have k11 : w5.cell? ⟨b, off + i * 12 + 11, none⟩ = some (.bool b1) := hk 11 _ rfl
            have HOP := hide ho
            clear hk ho
            have HO' : Hid (∀ w8, Below W.heap.size W w8 → OpAt w8 ⟨kind, nm, to, bs, nn, ks⟩ pb cb pk ck) := hox
            cases ha : actB kind with
            | false =>
              go_wp2_with (first | (go_at_call 14; refine (num_ok _ _ (by omega) (by omega)).mono ?_; rintro e wn ⟨rfl, hw⟩; rw [hw]; clear hw wn) | (go_at_call 8; refine (isAct_ok _ _).mono ?_; rintro e wn ⟨rfl, hw⟩; rw [hw, ha]; clear hw wn))
              exact ⟨⟨i + 1, ⟨cap, A, fu, dn⟩, S, by go_num, by omega, by omega, DiskOK.more ((unhide DX).below (bal (Below.refl _ _) _)) (by omega), unhide HI, unhide HDN, unhide HS, (unhide BX).trans ((bal (Below.refl _ _) _).mono (unhide BX).size), .inr ⟨t, T, rfl, DiskOK.more ((unhide TX).below (bal (Below.refl _ _) _)) (by omega), unhide TS, unhide TD⟩⟩, by simp [intOf]; omega⟩
            | true =>
              go_wp2_with (first | (go_at_call 14; refine (num_ok _ _ (by omega) (by omega)).mono ?_; rintro e wn ⟨rfl, hw⟩; rw [hw]; clear hw wn) | (go_at_call 8; refine (isAct_ok _ _).mono ?_; rintro e wn ⟨rfl, hw⟩; rw [hw, ha]; clear hw wn))
              obtain ⟨w6, hw6⟩ : ∃ w6, w6 = w5.alloc (.cells #[.int .i64 dk, .int .i64 kind, .string nm, .string to, .slice pb bs.length cb, .int .i64 at0, .int .i64 nn, .slice pk ks.length ck, .int .i64 c1, .slice pf lf cf, .int .i64 f1, .bool b1] 33) := ⟨_, rfl⟩
              have b6 : Below w5.heap.size w5 w6 := by rw [hw6]; exact bal (Below.refl _ _) _
              have z6 : w6.heap.size = w5.heap.size + 1 := by rw [hw6]; simp
              have q0 : w6.cell? ⟨w5.heap.size, 0, none⟩ = some (.int .i64 dk) := by rw [hw6, World.cell?_alloc_mark]; rfl
              have q1 : w6.cell? ⟨w5.heap.size, 1, none⟩ = some (.int .i64 kind) := by rw [hw6, World.cell?_alloc_mark]; rfl
              have q2 : w6.cell? ⟨w5.heap.size, 2, none⟩ = some (.string nm) := by rw [hw6, World.cell?_alloc_mark]; rfl
              have q3 : w6.cell? ⟨w5.heap.size, 3, none⟩ = some (.string to) := by rw [hw6, World.cell?_alloc_mark]; rfl
              have q4 : w6.cell? ⟨w5.heap.size, 4, none⟩ = some (.slice pb bs.length cb) := by rw [hw6, World.cell?_alloc_mark]; rfl
              have q5 : w6.cell? ⟨w5.heap.size, 5, none⟩ = some (.int .i64 at0) := by rw [hw6, World.cell?_alloc_mark]; rfl
              have q6 : w6.cell? ⟨w5.heap.size, 6, none⟩ = some (.int .i64 nn) := by rw [hw6, World.cell?_alloc_mark]; rfl
              have q7 : w6.cell? ⟨w5.heap.size, 7, none⟩ = some (.slice pk ks.length ck) := by rw [hw6, World.cell?_alloc_mark]; rfl
              have q8 : w6.cell? ⟨w5.heap.size, 8, none⟩ = some (.int .i64 c1) := by rw [hw6, World.cell?_alloc_mark]; rfl
              have q9 : w6.cell? ⟨w5.heap.size, 9, none⟩ = some (.slice pf lf cf) := by rw [hw6, World.cell?_alloc_mark]; rfl
              have q10 : w6.cell? ⟨w5.heap.size, 10, none⟩ = some (.int .i64 f1) := by rw [hw6, World.cell?_alloc_mark]; rfl
              have q11 : w6.cell? ⟨w5.heap.size, 11, none⟩ = some (.bool b1) := by rw [hw6, World.cell?_alloc_mark]; rfl
              rw [← hw6]
              clear hw6 k0 k1 k2 k3 k4 k5 k6 k7 k8 k9 k10 k11
              have OP6 := hide ((unhide HOP).mono b6)
              have D6 := hide ((unhide DX).below b6)
              have B6 : Hid (Below W.heap.size W w6) := (unhide BX).trans (b6.mono (unhide BX).size)
              have SL : Hid (∀ q, S q → q < w5.heap.size) := (unhide DX).sl
              have T6 := hide ((unhide TX).below b6)
              have TL : Hid (∀ q, T q → q < w6.heap.size) := (unhide T6).sl
              clear b6
              have HI' := acts_inv (o := ⟨kind, nm, to, bs, nn, ks⟩) (unhide HI)
              have HDN' := dn_act (o := ⟨kind, nm, to, bs, nn, ks⟩) (unhide HDN)
              have HA := acts_ok (unhide D6) (by omega) (unhide HI) ⟨kind, nm, to, bs, nn, ks⟩ dk at0 pb cb pk ck c1 f1 pf lf cf b1 ha (unhide OP6)
              have HAT : ∀ w8 : World, Below W.heap.size W w8 → DiskOK w8 t ((i + 1) * 64) ⟨cap, A, fu, dn⟩ T → _ := fun w8 hb ht8 => acts_ok ht8 (by omega) (unhide HI) ⟨kind, nm, to, bs, nn, ks⟩ dk at0 pb cb pk ck c1 f1 pf lf cf b1 ha ((unhide HO') w8 hb)
              obtain ⟨R, hR⟩ : ∃ R, R = actK ⟨kind, nm, to, bs, nn, ks⟩ ⟨cap, A, fu, dn⟩ := ⟨_, rfl⟩
              rw [← hR] at HI' HDN' HA
              rw [← hR] at HAT
              have HAT := hide HAT
              clear hR
              obtain ⟨⟨cap', A', fu', dn'⟩, er⟩ := R
              have HI' := hide HI'; have HDN' := hide HDN'
              refine HA.mono ?_
              clear HA
              rintro e w7 ⟨rfl, S7, hd7, hs7⟩
              dsimp only at hd7 ⊢
              have z7 := hs7.size
              have n1 : ¬ S w5.heap.size := fun h' => by have := unhide SL _ h'; omega
              have qa0 := sep_ne hs7 q0 n1
              have qa1 := sep_ne hs7 q1 n1
              have qa2 := sep_ne hs7 q2 n1
              have qa3 := sep_ne hs7 q3 n1
              have qa4 := sep_ne hs7 q4 n1
              have qa5 := sep_ne hs7 q5 n1
              have qa6 := sep_ne hs7 q6 n1
              have qa7 := sep_ne hs7 q7 n1
              have qa8 := sep_ne hs7 q8 n1
              have qa9 := sep_ne hs7 q9 n1
              have qa10 := sep_ne hs7 q10 n1
              have qa11 := sep_ne hs7 q11 n1
              have D7 := hide hd7
              have S7' : Hid (∀ q, S7 q → W.heap.size ≤ q) := hs7.from (unhide HS) (unhide B6).size
              have B7 : Hid (Below W.heap.size W w7) := (unhide B6).trans (hs7.below (unhide HS) (unhide B6).size)
              have T7 := hide ((unhide T6).sep hs7 (unhide TD))
              have TD7 : Hid (∀ q, T q → ¬ S7 q) := hs7.apart (unhide TD) (unhide TL)
              clear hd7 hs7 n1 q0 q1 q2 q3 q4 q5 q6 q7 q8 q9 q10 q11
              go_wp2_with fail
              refine (apart_ok (d := W.heap.size) (unhide T7) (unhide HI)).mono ?_
              rintro e w8 ⟨rfl, hb8⟩
              have z8 := hb8.size
              have qb0 := keep1 hb8 (by omega) qa0
              have qb1 := keep1 hb8 (by omega) qa1
              have qb2 := keep1 hb8 (by omega) qa2
              have qb3 := keep1 hb8 (by omega) qa3
              have qb4 := keep1 hb8 (by omega) qa4
              have qb5 := keep1 hb8 (by omega) qa5
              have qb6 := keep1 hb8 (by omega) qa6
              have qb7 := keep1 hb8 (by omega) qa7
              have qb8 := keep1 hb8 (by omega) qa8
              have qb9 := keep1 hb8 (by omega) qa9
              have qb10 := keep1 hb8 (by omega) qa10
              have qb11 := keep1 hb8 (by omega) qa11
              have D8 := hide ((unhide D7).below hb8)
              have T8 := hide ((unhide T7).below hb8)
              have B8 : Hid (Below W.heap.size W w8) := (unhide B7).trans (hb8.mono (unhide B7).size)
              clear hb8 qa0 qa1 qa2 qa3 qa4 qa5 qa6 qa7 qa8 qa9 qa10 qa11
              have HA8 := (unhide HAT) w8 (unhide B8) (unhide T8)
              have HA8 := hide HA8
              go_wp2_with fail
              refine (unhide HA8).mono ?_
              rintro e w9 ⟨rfl, T9, ht9, hs9⟩
              dsimp only at ht9 ⊢
              have TL8 : Hid (∀ q, T q → q < w8.heap.size) := (unhide T8).sl
              have SL8 : Hid (∀ q, S7 q → q < w8.heap.size) := (unhide D8).sl
              have z9 := hs9.size
              have D9 := hide ((unhide D8).sep hs9 (fun q hq hq' => unhide TD7 q hq' hq))
              have T9' := hide ht9
              have TD9 : Hid (∀ q, T9 q → ¬ S7 q) := fun q hq hq' => (hs9.apart (T := S7) (fun q h h' => unhide TD7 q h' h) (unhide SL8)) q hq' hq
              have TS9 : Hid (∀ q, T9 q → W.heap.size ≤ q) := hs9.from (unhide TS) (unhide B8).size
              have B9 : Hid (Below W.heap.size W w9) := (unhide B8).trans (hs9.below (unhide TS) (unhide B8).size)
              clear ht9 hs9 qb0 qb1 qb2 qb3 qb4 qb5 qb6 qb7 qb8 qb9 qb10 qb11
              go_wp2_with fail
              obtain ⟨mo9, m9, es9, hD9⟩ := unhide D9
              refine (state_ok hD9 (unhide HI')).mono ?_
              rintro e w10 ⟨⟨v10, he10, fb10, hfb10, hfr10⟩, hb10⟩
              have hfr10 : FilesRow w10 fb10 w10.heap.size v10 A' := hfr10
              obtain ⟨p10, c10, rfl⟩ := hfr10.form
              have he10 : e = .returned (.agg #[.int .i64 cap', .slice p10 A'.length c10, .int .i64 fu', .bool dn']) := he10
              subst he10
              have z10 := hb10.size
              have T10 := hide ((unhide T9').below hb10)
              have D10 := hide ((unhide D9).below hb10)
              have B10 : Hid (Below W.heap.size W w10) := (unhide B9).trans (hb10.mono (unhide B9).size)
              have F10 := hide hfr10
              clear hb10 hfr10 hD9
              go_wp2_with fail
              obtain ⟨mo10, m10, es10, hD10⟩ := unhide T10
              refine (state_ok hD10 (unhide HI')).mono ?_
              rintro e w11 ⟨⟨v11, he11, fb11, hfb11, hfr11⟩, hb11⟩
              have hfr11 : FilesRow w11 fb11 w11.heap.size v11 A' := hfr11
              obtain ⟨p11, c11, rfl⟩ := hfr11.form
              have he11 : e = .returned (.agg #[.int .i64 cap', .slice p11 A'.length c11, .int .i64 fu', .bool dn']) := he11
              subst he11
              have z11 := hb11.size
              have T11 := hide ((unhide T10).below hb11)
              have D11 := hide ((unhide D10).below hb11)
              have B11 : Hid (Below W.heap.size W w11) := (unhide B10).trans (hb11.mono (unhide B10).size)
              have F11 := hide ((unhide F10).below (Nat.le_refl _) hb11)
              have E11 := hide hfr11
              clear hb11 hfr11 hD10
              go_wp2_with fail
              refine (same_ok cap' fu' dn' (unhide F11) (unhide E11) (by omega) (Nat.le_refl _) (unhide HI').many).mono ?_
              rintro e w12 ⟨rfl, hb12⟩
              have HB12 := hide hb12
              clear hb12
              go_wp2_with fail
              exact ⟨⟨i + 1, ⟨cap', A', fu', dn'⟩, S7, by go_num, by omega, by omega, DiskOK.more ((unhide D11).below (unhide HB12)) (by omega), unhide HI', unhide HDN', unhide S7', (unhide B11).trans ((unhide HB12).mono (unhide B11).size), .inr ⟨t, T9, rfl, DiskOK.more ((unhide T11).below (unhide HB12)) (by omega), unhide TS9, unhide TD9⟩⟩, by simp [intOf]; omega⟩
          | false =>
            have DX := HD; have BX := HB
            have hk : ∀ j u, (X i).cells[j]? = some u → wr.cell? ⟨b, off + i * 12 + j, none⟩ = some u := fun j u hj => by
              have h3 := hcs i h1 j u hj
              rw [← Nat.add_assoc] at h3
              exact ((unhide BX).cell (p := ⟨b, off + i * 12 + j, none⟩) (World.block_lt_of_cell? W _ h3)).trans h3
            have ho := ((unhide HO) i h1).mono (unhide BX)
            generalize X i = xi at hk ho
            obtain ⟨⟨kind, nm, to, bs, nn, ks⟩, dk, at0, pb, cb, pk, ck, c1, pf, lf, cf, f1, b1⟩ := xi
            have k0 : wr.cell? ⟨b, off + i * 12, none⟩ = some (.int .i64 dk) := hk 0 _ rfl
            have k1 : wr.cell? ⟨b, off + i * 12 + 1, none⟩ = some (.int .i64 kind) := hk 1 _ rfl
            have k2 : wr.cell? ⟨b, off + i * 12 + 2, none⟩ = some (.string nm) := hk 2 _ rfl
            have k3 : wr.cell? ⟨b, off + i * 12 + 3, none⟩ = some (.string to) := hk 3 _ rfl
            have k4 : wr.cell? ⟨b, off + i * 12 + 4, none⟩ = some (.slice pb bs.length cb) := hk 4 _ rfl
            have k5 : wr.cell? ⟨b, off + i * 12 + 5, none⟩ = some (.int .i64 at0) := hk 5 _ rfl
            have k6 : wr.cell? ⟨b, off + i * 12 + 6, none⟩ = some (.int .i64 nn) := hk 6 _ rfl
            have k7 : wr.cell? ⟨b, off + i * 12 + 7, none⟩ = some (.slice pk ks.length ck) := hk 7 _ rfl
            have k8 : wr.cell? ⟨b, off + i * 12 + 8, none⟩ = some (.int .i64 c1) := hk 8 _ rfl
            have k9 : wr.cell? ⟨b, off + i * 12 + 9, none⟩ = some (.slice pf lf cf) := hk 9 _ rfl
            have k10 : wr.cell? ⟨b, off + i * 12 + 10, none⟩ = some (.int .i64 f1) := hk 10 _ rfl
            have k11 : wr.cell? ⟨b, off + i * 12 + 11, none⟩ = some (.bool b1) := hk 11 _ rfl
            have HOP := hide ho
            clear hk ho
            cases ha : actB kind with
            | false =>
              go_wp2_with (first | (go_at_call 8; refine (isAct_ok _ _).mono ?_; rintro e wn ⟨rfl, hw⟩; rw [hw, ha]; clear hw wn))
              exact ⟨⟨i + 1, ⟨cap, A, fu, dn⟩, S, by go_num, by omega, by omega, DiskOK.more ((unhide DX).below (bal (Below.refl _ _) _)) (by omega), unhide HI, unhide HDN, unhide HS, (unhide BX).trans ((bal (Below.refl _ _) _).mono (unhide BX).size), .inl rfl⟩, by simp [intOf]; omega⟩
            | true =>
              go_wp2_with (first | (go_at_call 8; refine (isAct_ok _ _).mono ?_; rintro e wn ⟨rfl, hw⟩; rw [hw, ha]; clear hw wn))
              obtain ⟨w6, hw6⟩ : ∃ w6, w6 = wr.alloc (.cells #[.int .i64 dk, .int .i64 kind, .string nm, .string to, .slice pb bs.length cb, .int .i64 at0, .int .i64 nn, .slice pk ks.length ck, .int .i64 c1, .slice pf lf cf, .int .i64 f1, .bool b1] 33) := ⟨_, rfl⟩
              have b6 : Below wr.heap.size wr w6 := by rw [hw6]; exact bal (Below.refl _ _) _
              have z6 : w6.heap.size = wr.heap.size + 1 := by rw [hw6]; simp
              rw [← hw6]
              clear hw6 k0 k1 k2 k3 k4 k5 k6 k7 k8 k9 k10 k11
              have OP6 := hide ((unhide HOP).mono b6)
              have D6 := hide ((unhide DX).below b6)
              have B6 : Hid (Below W.heap.size W w6) := (unhide BX).trans (b6.mono (unhide BX).size)
              have SL : Hid (∀ q, S q → q < wr.heap.size) := (unhide DX).sl
              clear b6
              have HI' := acts_inv (o := ⟨kind, nm, to, bs, nn, ks⟩) (unhide HI)
              have HDN' := dn_act (o := ⟨kind, nm, to, bs, nn, ks⟩) (unhide HDN)
              have HA := acts_ok (unhide D6) (by omega) (unhide HI) ⟨kind, nm, to, bs, nn, ks⟩ dk at0 pb cb pk ck c1 f1 pf lf cf b1 ha (unhide OP6)
              obtain ⟨R, hR⟩ : ∃ R, R = actK ⟨kind, nm, to, bs, nn, ks⟩ ⟨cap, A, fu, dn⟩ := ⟨_, rfl⟩
              rw [← hR] at HI' HDN' HA
              clear hR
              obtain ⟨⟨cap', A', fu', dn'⟩, er⟩ := R
              have HI' := hide HI'; have HDN' := hide HDN'
              refine HA.mono ?_
              clear HA
              rintro e w7 ⟨rfl, S7, hd7, hs7⟩
              dsimp only at hd7 ⊢
              have z7 := hs7.size
              have n1 : ¬ S wr.heap.size := fun h' => by have := unhide SL _ h'; omega
              have D7 := hide hd7
              have S7' : Hid (∀ q, S7 q → W.heap.size ≤ q) := hs7.from (unhide HS) (unhide B6).size
              have B7 : Hid (Below W.heap.size W w7) := (unhide B6).trans (hs7.below (unhide HS) (unhide B6).size)
              clear hd7 hs7 n1
              go_wp2_with fail
              exact ⟨⟨i + 1, ⟨cap', A', fu', dn'⟩, S7, by go_num, by omega, by omega, DiskOK.more (unhide D7) (by omega), unhide HI', unhide HDN', unhide S7', unhide B7, .inl rfl⟩, by simp [intOf]; omega⟩
        · obtain ⟨ht1, ht2, ht3⟩ := ht
          have TX := hide ht1; have TS := hide ht2; have TD := hide ht3
          clear ht1 ht2 ht3
          have DX := HD; have BX := HB
          have hk : ∀ j u, (X i).cells[j]? = some u → wr.cell? ⟨b, off + i * 12 + j, none⟩ = some u := fun j u hj => by
            have h3 := hcs i h1 j u hj
            rw [← Nat.add_assoc] at h3
            exact ((unhide BX).cell (p := ⟨b, off + i * 12 + j, none⟩) (World.block_lt_of_cell? W _ h3)).trans h3
          have ho := ((unhide HO) i h1).mono (unhide BX)
          have hox := fun w8 hb => ((unhide HO) i h1).mono (W' := w8) hb
          generalize X i = xi at hk ho hox
          obtain ⟨⟨kind, nm, to, bs, nn, ks⟩, dk, at0, pb, cb, pk, ck, c1, pf, lf, cf, f1, b1⟩ := xi
          have k0 : wr.cell? ⟨b, off + i * 12, none⟩ = some (.int .i64 dk) := hk 0 _ rfl
          have k1 : wr.cell? ⟨b, off + i * 12 + 1, none⟩ = some (.int .i64 kind) := hk 1 _ rfl
          have k2 : wr.cell? ⟨b, off + i * 12 + 2, none⟩ = some (.string nm) := hk 2 _ rfl
          have k3 : wr.cell? ⟨b, off + i * 12 + 3, none⟩ = some (.string to) := hk 3 _ rfl
          have k4 : wr.cell? ⟨b, off + i * 12 + 4, none⟩ = some (.slice pb bs.length cb) := hk 4 _ rfl
          have k5 : wr.cell? ⟨b, off + i * 12 + 5, none⟩ = some (.int .i64 at0) := hk 5 _ rfl
          have k6 : wr.cell? ⟨b, off + i * 12 + 6, none⟩ = some (.int .i64 nn) := hk 6 _ rfl
          have k7 : wr.cell? ⟨b, off + i * 12 + 7, none⟩ = some (.slice pk ks.length ck) := hk 7 _ rfl
          have k8 : wr.cell? ⟨b, off + i * 12 + 8, none⟩ = some (.int .i64 c1) := hk 8 _ rfl
          have k9 : wr.cell? ⟨b, off + i * 12 + 9, none⟩ = some (.slice pf lf cf) := hk 9 _ rfl
          have k10 : wr.cell? ⟨b, off + i * 12 + 10, none⟩ = some (.int .i64 f1) := hk 10 _ rfl
          have k11 : wr.cell? ⟨b, off + i * 12 + 11, none⟩ = some (.bool b1) := hk 11 _ rfl
          have HOP := hide ho
          clear hk ho
          have HO' : Hid (∀ w8, Below W.heap.size W w8 → OpAt w8 ⟨kind, nm, to, bs, nn, ks⟩ pb cb pk ck) := hox
          cases ha : actB kind with
          | false =>
            go_wp2_with (first | (go_at_call 8; refine (isAct_ok _ _).mono ?_; rintro e wn ⟨rfl, hw⟩; rw [hw, ha]; clear hw wn))
            exact ⟨⟨i + 1, ⟨cap, A, fu, dn⟩, S, by go_num, by omega, by omega, DiskOK.more ((unhide DX).below (bal (Below.refl _ _) _)) (by omega), unhide HI, unhide HDN, unhide HS, (unhide BX).trans ((bal (Below.refl _ _) _).mono (unhide BX).size), .inr ⟨t, T, rfl, DiskOK.more ((unhide TX).below (bal (Below.refl _ _) _)) (by omega), unhide TS, unhide TD⟩⟩, by simp [intOf]; omega⟩
          | true =>
            go_wp2_with (first | (go_at_call 8; refine (isAct_ok _ _).mono ?_; rintro e wn ⟨rfl, hw⟩; rw [hw, ha]; clear hw wn))
            obtain ⟨w6, hw6⟩ : ∃ w6, w6 = wr.alloc (.cells #[.int .i64 dk, .int .i64 kind, .string nm, .string to, .slice pb bs.length cb, .int .i64 at0, .int .i64 nn, .slice pk ks.length ck, .int .i64 c1, .slice pf lf cf, .int .i64 f1, .bool b1] 33) := ⟨_, rfl⟩
            have b6 : Below wr.heap.size wr w6 := by rw [hw6]; exact bal (Below.refl _ _) _
            have z6 : w6.heap.size = wr.heap.size + 1 := by rw [hw6]; simp
            have q0 : w6.cell? ⟨wr.heap.size, 0, none⟩ = some (.int .i64 dk) := by rw [hw6, World.cell?_alloc_mark]; rfl
            have q1 : w6.cell? ⟨wr.heap.size, 1, none⟩ = some (.int .i64 kind) := by rw [hw6, World.cell?_alloc_mark]; rfl
            have q2 : w6.cell? ⟨wr.heap.size, 2, none⟩ = some (.string nm) := by rw [hw6, World.cell?_alloc_mark]; rfl
            have q3 : w6.cell? ⟨wr.heap.size, 3, none⟩ = some (.string to) := by rw [hw6, World.cell?_alloc_mark]; rfl
            have q4 : w6.cell? ⟨wr.heap.size, 4, none⟩ = some (.slice pb bs.length cb) := by rw [hw6, World.cell?_alloc_mark]; rfl
            have q5 : w6.cell? ⟨wr.heap.size, 5, none⟩ = some (.int .i64 at0) := by rw [hw6, World.cell?_alloc_mark]; rfl
            have q6 : w6.cell? ⟨wr.heap.size, 6, none⟩ = some (.int .i64 nn) := by rw [hw6, World.cell?_alloc_mark]; rfl
            have q7 : w6.cell? ⟨wr.heap.size, 7, none⟩ = some (.slice pk ks.length ck) := by rw [hw6, World.cell?_alloc_mark]; rfl
            have q8 : w6.cell? ⟨wr.heap.size, 8, none⟩ = some (.int .i64 c1) := by rw [hw6, World.cell?_alloc_mark]; rfl
            have q9 : w6.cell? ⟨wr.heap.size, 9, none⟩ = some (.slice pf lf cf) := by rw [hw6, World.cell?_alloc_mark]; rfl
            have q10 : w6.cell? ⟨wr.heap.size, 10, none⟩ = some (.int .i64 f1) := by rw [hw6, World.cell?_alloc_mark]; rfl
            have q11 : w6.cell? ⟨wr.heap.size, 11, none⟩ = some (.bool b1) := by rw [hw6, World.cell?_alloc_mark]; rfl
            rw [← hw6]
            clear hw6 k0 k1 k2 k3 k4 k5 k6 k7 k8 k9 k10 k11
            have OP6 := hide ((unhide HOP).mono b6)
            have D6 := hide ((unhide DX).below b6)
            have B6 : Hid (Below W.heap.size W w6) := (unhide BX).trans (b6.mono (unhide BX).size)
            have SL : Hid (∀ q, S q → q < wr.heap.size) := (unhide DX).sl
            have T6 := hide ((unhide TX).below b6)
            have TL : Hid (∀ q, T q → q < w6.heap.size) := (unhide T6).sl
            clear b6
            have HI' := acts_inv (o := ⟨kind, nm, to, bs, nn, ks⟩) (unhide HI)
            have HDN' := dn_act (o := ⟨kind, nm, to, bs, nn, ks⟩) (unhide HDN)
            have HA := acts_ok (unhide D6) (by omega) (unhide HI) ⟨kind, nm, to, bs, nn, ks⟩ dk at0 pb cb pk ck c1 f1 pf lf cf b1 ha (unhide OP6)
            have HAT : ∀ w8 : World, Below W.heap.size W w8 → DiskOK w8 t ((i + 1) * 64) ⟨cap, A, fu, dn⟩ T → _ := fun w8 hb ht8 => acts_ok ht8 (by omega) (unhide HI) ⟨kind, nm, to, bs, nn, ks⟩ dk at0 pb cb pk ck c1 f1 pf lf cf b1 ha ((unhide HO') w8 hb)
            obtain ⟨R, hR⟩ : ∃ R, R = actK ⟨kind, nm, to, bs, nn, ks⟩ ⟨cap, A, fu, dn⟩ := ⟨_, rfl⟩
            rw [← hR] at HI' HDN' HA
            rw [← hR] at HAT
            have HAT := hide HAT
            clear hR
            obtain ⟨⟨cap', A', fu', dn'⟩, er⟩ := R
            have HI' := hide HI'; have HDN' := hide HDN'
            refine HA.mono ?_
            clear HA
            rintro e w7 ⟨rfl, S7, hd7, hs7⟩
            dsimp only at hd7 ⊢
            have z7 := hs7.size
            have n1 : ¬ S wr.heap.size := fun h' => by have := unhide SL _ h'; omega
            have qa0 := sep_ne hs7 q0 n1
            have qa1 := sep_ne hs7 q1 n1
            have qa2 := sep_ne hs7 q2 n1
            have qa3 := sep_ne hs7 q3 n1
            have qa4 := sep_ne hs7 q4 n1
            have qa5 := sep_ne hs7 q5 n1
            have qa6 := sep_ne hs7 q6 n1
            have qa7 := sep_ne hs7 q7 n1
            have qa8 := sep_ne hs7 q8 n1
            have qa9 := sep_ne hs7 q9 n1
            have qa10 := sep_ne hs7 q10 n1
            have qa11 := sep_ne hs7 q11 n1
            have D7 := hide hd7
            have S7' : Hid (∀ q, S7 q → W.heap.size ≤ q) := hs7.from (unhide HS) (unhide B6).size
            have B7 : Hid (Below W.heap.size W w7) := (unhide B6).trans (hs7.below (unhide HS) (unhide B6).size)
            have T7 := hide ((unhide T6).sep hs7 (unhide TD))
            have TD7 : Hid (∀ q, T q → ¬ S7 q) := hs7.apart (unhide TD) (unhide TL)
            clear hd7 hs7 n1 q0 q1 q2 q3 q4 q5 q6 q7 q8 q9 q10 q11
            go_wp2_with fail
            refine (apart_ok (d := W.heap.size) (unhide T7) (unhide HI)).mono ?_
            rintro e w8 ⟨rfl, hb8⟩
            have z8 := hb8.size
            have qb0 := keep1 hb8 (by omega) qa0
            have qb1 := keep1 hb8 (by omega) qa1
            have qb2 := keep1 hb8 (by omega) qa2
            have qb3 := keep1 hb8 (by omega) qa3
            have qb4 := keep1 hb8 (by omega) qa4
            have qb5 := keep1 hb8 (by omega) qa5
            have qb6 := keep1 hb8 (by omega) qa6
            have qb7 := keep1 hb8 (by omega) qa7
            have qb8 := keep1 hb8 (by omega) qa8
            have qb9 := keep1 hb8 (by omega) qa9
            have qb10 := keep1 hb8 (by omega) qa10
            have qb11 := keep1 hb8 (by omega) qa11
            have D8 := hide ((unhide D7).below hb8)
            have T8 := hide ((unhide T7).below hb8)
            have B8 : Hid (Below W.heap.size W w8) := (unhide B7).trans (hb8.mono (unhide B7).size)
            clear hb8 qa0 qa1 qa2 qa3 qa4 qa5 qa6 qa7 qa8 qa9 qa10 qa11
            have HA8 := (unhide HAT) w8 (unhide B8) (unhide T8)
            have HA8 := hide HA8
            go_wp2_with fail
            refine (unhide HA8).mono ?_
            rintro e w9 ⟨rfl, T9, ht9, hs9⟩
            dsimp only at ht9 ⊢
            have TL8 : Hid (∀ q, T q → q < w8.heap.size) := (unhide T8).sl
            have SL8 : Hid (∀ q, S7 q → q < w8.heap.size) := (unhide D8).sl
            have z9 := hs9.size
            have D9 := hide ((unhide D8).sep hs9 (fun q hq hq' => unhide TD7 q hq' hq))
            have T9' := hide ht9
            have TD9 : Hid (∀ q, T9 q → ¬ S7 q) := fun q hq hq' => (hs9.apart (T := S7) (fun q h h' => unhide TD7 q h' h) (unhide SL8)) q hq' hq
            have TS9 : Hid (∀ q, T9 q → W.heap.size ≤ q) := hs9.from (unhide TS) (unhide B8).size
            have B9 : Hid (Below W.heap.size W w9) := (unhide B8).trans (hs9.below (unhide TS) (unhide B8).size)
            clear ht9 hs9 qb0 qb1 qb2 qb3 qb4 qb5 qb6 qb7 qb8 qb9 qb10 qb11
            go_wp2_with fail
            obtain ⟨mo9, m9, es9, hD9⟩ := unhide D9
            refine (state_ok hD9 (unhide HI')).mono ?_
            rintro e w10 ⟨⟨v10, he10, fb10, hfb10, hfr10⟩, hb10⟩
            have hfr10 : FilesRow w10 fb10 w10.heap.size v10 A' := hfr10
            obtain ⟨p10, c10, rfl⟩ := hfr10.form
            have he10 : e = .returned (.agg #[.int .i64 cap', .slice p10 A'.length c10, .int .i64 fu', .bool dn']) := he10
            subst he10
            have z10 := hb10.size
            have T10 := hide ((unhide T9').below hb10)
            have D10 := hide ((unhide D9).below hb10)
            have B10 : Hid (Below W.heap.size W w10) := (unhide B9).trans (hb10.mono (unhide B9).size)
            have F10 := hide hfr10
            clear hb10 hfr10 hD9
            go_wp2_with fail
            obtain ⟨mo10, m10, es10, hD10⟩ := unhide T10
            refine (state_ok hD10 (unhide HI')).mono ?_
            rintro e w11 ⟨⟨v11, he11, fb11, hfb11, hfr11⟩, hb11⟩
            have hfr11 : FilesRow w11 fb11 w11.heap.size v11 A' := hfr11
            obtain ⟨p11, c11, rfl⟩ := hfr11.form
            have he11 : e = .returned (.agg #[.int .i64 cap', .slice p11 A'.length c11, .int .i64 fu', .bool dn']) := he11
            subst he11
            have z11 := hb11.size
            have T11 := hide ((unhide T10).below hb11)
            have D11 := hide ((unhide D10).below hb11)
            have B11 : Hid (Below W.heap.size W w11) := (unhide B10).trans (hb11.mono (unhide B10).size)
            have F11 := hide ((unhide F10).below (Nat.le_refl _) hb11)
            have E11 := hide hfr11
            clear hb11 hfr11 hD10
            go_wp2_with fail
            refine (same_ok cap' fu' dn' (unhide F11) (unhide E11) (by omega) (Nat.le_refl _) (unhide HI').many).mono ?_
            rintro e w12 ⟨rfl, hb12⟩
            have HB12 := hide hb12
            clear hb12
            go_wp2_with fail
            exact ⟨⟨i + 1, ⟨cap', A', fu', dn'⟩, S7, by go_num, by omega, by omega, DiskOK.more ((unhide D11).below (unhide HB12)) (by omega), unhide HI', unhide HDN', unhide S7', (unhide B11).trans ((unhide HB12).mono (unhide B11).size), .inr ⟨t, T9, rfl, DiskOK.more ((unhide T11).below (unhide HB12)) (by omega), unhide TS9, unhide TD9⟩⟩, by simp [intOf]; omega⟩
    · by_cases h1 : i < n
      · have i1 : (i : Int) < (n : Int) := by omega
        have i2 : ¬ (i : Int) < 400 := by omega
        clear hlt
        rcases ht with rfl | ⟨t, T, rfl, ht⟩
        · go_wp2_with fail
          go_ret
          exact ⟨rfl, unhide HB⟩
        · obtain ⟨ht1, ht2, ht3⟩ := ht
          have TX := hide ht1
          clear ht1 ht2 ht3
          go_wp2_with fail
          obtain ⟨mo9, m9, es9, hD9⟩ := unhide HD
          refine (state_ok hD9 (unhide HI)).mono ?_
          rintro e w10 ⟨⟨v10, he10, fb10, hfb10, hfr10⟩, hb10⟩
          have hfr10 : FilesRow w10 fb10 w10.heap.size v10 A := hfr10
          obtain ⟨p10, c10, rfl⟩ := hfr10.form
          have he10 : e = .returned (.agg #[.int .i64 cap, .slice p10 A.length c10, .int .i64 fu, .bool dn]) := he10
          subst he10
          have z10 := hb10.size
          have T10 := hide ((unhide TX).below hb10)
          have B10 : Hid (Below W.heap.size W w10) := (unhide HB).trans (hb10.mono (unhide HB).size)
          have F10 := hide hfr10
          clear hb10 hfr10 hD9
          go_wp2_with fail
          obtain ⟨mo10, m10, es10, hD10⟩ := unhide T10
          refine (state_ok hD10 (unhide HI)).mono ?_
          rintro e w11 ⟨⟨v11, he11, fb11, hfb11, hfr11⟩, hb11⟩
          have hfr11 : FilesRow w11 fb11 w11.heap.size v11 A := hfr11
          obtain ⟨p11, c11, rfl⟩ := hfr11.form
          have he11 : e = .returned (.agg #[.int .i64 cap, .slice p11 A.length c11, .int .i64 fu, .bool dn]) := he11
          subst he11
          have z11 := hb11.size
          have B11 : Hid (Below W.heap.size W w11) := (unhide B10).trans (hb11.mono (unhide B10).size)
          have F11 := hide ((unhide F10).below (Nat.le_refl _) hb11)
          have E11 := hide hfr11
          clear hb11 hfr11 hD10
          go_wp2_with fail
          refine (same_ok cap fu dn (unhide F11) (unhide E11) (by omega) (Nat.le_refl _) (unhide HI).many).mono ?_
          rintro e w12 ⟨rfl, hb12⟩
          have B12 : Hid (Below W.heap.size W w12) := (unhide B11).trans (hb12.mono (unhide B11).size)
          clear hb12
          go_wp2_with fail
          go_ret
          exact ⟨rfl, unhide B12⟩
      · have i1 : ¬ (i : Int) < (n : Int) := by omega
        clear hlt
        rcases ht with rfl | ⟨t, T, rfl, ht⟩
        · go_wp2_with fail
          go_ret
          exact ⟨rfl, unhide HB⟩
        · obtain ⟨ht1, ht2, ht3⟩ := ht
          have TX := hide ht1
          clear ht1 ht2 ht3
          go_wp2_with fail
          obtain ⟨mo9, m9, es9, hD9⟩ := unhide HD
          refine (state_ok hD9 (unhide HI)).mono ?_
          rintro e w10 ⟨⟨v10, he10, fb10, hfb10, hfr10⟩, hb10⟩
          have hfr10 : FilesRow w10 fb10 w10.heap.size v10 A := hfr10
          obtain ⟨p10, c10, rfl⟩ := hfr10.form
          have he10 : e = .returned (.agg #[.int .i64 cap, .slice p10 A.length c10, .int .i64 fu, .bool dn]) := he10
          subst he10
          have z10 := hb10.size
          have T10 := hide ((unhide TX).below hb10)
          have B10 : Hid (Below W.heap.size W w10) := (unhide HB).trans (hb10.mono (unhide HB).size)
          have F10 := hide hfr10
          clear hb10 hfr10 hD9
          go_wp2_with fail
          obtain ⟨mo10, m10, es10, hD10⟩ := unhide T10
          refine (state_ok hD10 (unhide HI)).mono ?_
          rintro e w11 ⟨⟨v11, he11, fb11, hfb11, hfr11⟩, hb11⟩
          have hfr11 : FilesRow w11 fb11 w11.heap.size v11 A := hfr11
          obtain ⟨p11, c11, rfl⟩ := hfr11.form
          have he11 : e = .returned (.agg #[.int .i64 cap, .slice p11 A.length c11, .int .i64 fu, .bool dn]) := he11
          subst he11
          have z11 := hb11.size
          have B11 : Hid (Below W.heap.size W w11) := (unhide B10).trans (hb11.mono (unhide B10).size)
          have F11 := hide ((unhide F10).below (Nat.le_refl _) hb11)
          have E11 := hide hfr11
          clear hb11 hfr11 hD10
          go_wp2_with fail
          refine (same_ok cap fu dn (unhide F11) (unhide E11) (by omega) (Nat.le_refl _) (unhide HI).many).mono ?_
          rintro e w12 ⟨rfl, hb12⟩
          have B12 : Hid (Below W.heap.size W w12) := (unhide B11).trans (hb12.mono (unhide B11).size)
          clear hb12
          go_wp2_with fail
          go_ret
          exact ⟨rfl, unhide B12⟩
end Go.Proofs.Ytpeohbkigkfcgaa
