/- DiskWhole (3): the walk. -/
import Derived.Test.YtpeohbkigkfcgaaLwA
import Derived.Test.YtpeohbkigkfcgaaGoB
namespace Go.Proofs.Ytpeohbkigkfcgaa
open Go Go.Shelf Go.ChangeShapes Go.WideShapes Go.ChangeAt Go.RowKit Go.Maps Go.Sort
set_option linter.unusedVariables false
theorem BytesIn.mono {W W' : World} {u : Value} {bs : List UInt8} {B : Nat} (h : BytesIn W u bs) (hb : Below B W W') (hB : W.heap.size ≤ B) : BytesIn W' u bs := by
  rcases h with h | ⟨a, c, rfl, h⟩
  · exact .inl h
  · refine .inr ⟨a, c, rfl, fun j u hj => ?_⟩
    have h1 := h j u hj
    exact (hb.cell (p := a.add j) (Nat.lt_of_lt_of_le (World.block_lt_of_cell? W _ h1) hB)).trans h1
theorem KsIn.mono {W W' : World} {u : Value} {ks : List Int} {B : Nat} (h : KsIn W u ks) (hb : Below B W W') (hB : W.heap.size ≤ B) : KsIn W' u ks := by
  rcases h with h | ⟨a, c, rfl, h⟩
  · exact .inl h
  · refine .inr ⟨a, c, rfl, fun j u hj => ?_⟩
    have h1 := h j u hj
    exact (hb.cell (p := a.add j) (Nat.lt_of_lt_of_le (World.block_lt_of_cell? W _ h1) hB)).trans h1
theorem OpAt.mono {W W' : World} {o : OpV} {pb : Option Addr} {cb : Nat} {pk : Option Addr} {ck : Nat} (h : OpAt W o pb cb pk ck) (hb : Below W.heap.size W W') : OpAt W' o pb cb pk ck :=
  ⟨h.nm, h.to, h.bl, h.by'.mono hb (Nat.le_refl _), h.kl, h.ks.mono hb (Nat.le_refl _)⟩
/-- what holds at the head of each round -/
def LRel (W : World) (n : Nat) (u : Value) (wr : World) : Prop :=
  ∃ (i : Nat) (K : Dk) (S : Nat → Prop), u = .int .i64 (i : Int) ∧ i ≤ n ∧ i ≤ 400 ∧ DiskOK wr W.heap.size (i * 64) K S ∧ Inv K ∧ SixK K ∧ (∀ q, S q → W.heap.size ≤ q) ∧ Below W.heap.size W wr
set_option maxRecDepth 100000 in
set_option maxHeartbeats 4000000 in
theorem whole_walk (x : Int) (hx0 : -9223372036854775808 ≤ x) (hx1 : x ≤ 9223372036854775807) (n : Nat) (pu : Option Addr) (cu : Nat) (X : Nat → OpX) (W : World) (hn : n ≤ maxLen) (hops : OpsAt W (.slice pu n cu) n X) (hop : ∀ i, i < n → OpAt W (X i).o (X i).pb (X i).cb (X i).pk (X i).ck) :
    Calls Try.prog 3 #[.int .i64 x, .slice pu n cu] W fun e w' => e = .returned (.bool true) ∧ Below W.heap.size W w' := by
  have HX := hide hops; have HO := hide hop
  clear hops hop
  go_enter Try.func3, Try.ntmps3
  go_wp2_with fail
  refine (begun_ok x hx0 hx1 W).mono ?_
  rintro e w1 ⟨rfl, hd1, hb1⟩
  have D1 := hide hd1
  have B1 := hide hb1
  clear hd1 hb1
  go_wp2_with fail
  refine (first_ok w1).mono ?_
  rintro e w2 ⟨rfl, hb2⟩
  have D2 := hide ((unhide D1).below hb2)
  have B2 : Hid (Below W.heap.size W w2) := (unhide B1).trans (hb2.mono (unhide B1).size)
  clear hb2
  go_wp2_with fail
  go_loopw [7] (LRel W n) (fun u _ => n - (intOf u).toNat)
  case atStart =>
    exact ⟨0, _, _, rfl, Nat.zero_le _, by omega, unhide D2, Inv.new (capP_can x) (by decide), (fun p hp => by cases hp), (fun q e => by omega), unhide B2⟩
  case round =>
    obtain ⟨i, ⟨cap, A, fu, dn⟩, S, rfl, hin, hi4, hD, hI, h6, hS, hB⟩ := hrel
    have HD := hide hD; have HI := hide hI; have H6 := hide h6; have HS := hide hS; have HB := hide hB
    clear hD hI h6 hS hB
    by_cases hlt : i < n ∧ i < 400
    · obtain ⟨h1, h2⟩ := hlt
      have i1 : (i : Int) < (n : Int) := by omega
      have i2 : (i : Int) < 400 := by omega
      have i0 : (0 : Int) ≤ (i : Int) := by omega
      rcases unhide HX with ⟨h0, _⟩ | ⟨b, off, c, hv, hbl, hcs⟩
      · omega
      injection hv with hv _ hc
      subst hv hc
      have hk : ∀ j u, (X i).cells[j]? = some u → wr.cell? ⟨b, off + i * 12 + j, none⟩ = some u := fun j u hj => by
        have h3 := hcs i h1 j u hj
        rw [← Nat.add_assoc] at h3
        exact ((unhide HB).cell (p := ⟨b, off + i * 12 + j, none⟩) (World.block_lt_of_cell? W _ h3)).trans h3
      have ho := ((unhide HO) i h1).mono (unhide HB)
      generalize X i = xi at hk ho
      obtain ⟨⟨kind, nm, to, bs, nn, ks⟩, dk, at0, pb, cb, pk, ck, c1, pf, lf, cf, f1, b1⟩ := xi
      have k0 : wr.cell? ⟨b, off + i * 12, none⟩ = some (.int .i64 dk) := hk 0 _ rfl
      have k1 : wr.cell? ⟨b, off + i * 12 + 1, none⟩ = some (.int .i64 kind) := hk 1 _ rfl
      have k2 : wr.cell? ⟨b, off + i * 12 + 2, none⟩ = some (.string nm) := hk 2 _ rfl
      have k3 : wr.cell? ⟨b, off + i * 12 + 3, none⟩ = some (.string to) := hk 3 _ rfl
      have k4 : wr.cell? ⟨b, off + i * 12 + 4, none⟩ = some (.slice pb bs.length cb) := hk 4 _ rfl
      have k5 : wr.cell? ⟨b, off + i * 12 + 5, none⟩ = some (.int .i64 at0) := hk 5 _ rfl
      have k6 : wr.cell? ⟨b, off + i * 12 + 6, none⟩ = some (.int .i64 nn) := hk 6 _ rfl
      have k7 : wr.cell? ⟨b, off + i * 12 + 7, none⟩ = some (.slice pk ks.length ck) := hk 7 _ rfl
      have k8 : wr.cell? ⟨b, off + i * 12 + 8, none⟩ = some (.int .i64 c1) := hk 8 _ rfl
      have k9 : wr.cell? ⟨b, off + i * 12 + 9, none⟩ = some (.slice pf lf cf) := hk 9 _ rfl
      have k10 : wr.cell? ⟨b, off + i * 12 + 10, none⟩ = some (.int .i64 f1) := hk 10 _ rfl
      have k11 : wr.cell? ⟨b, off + i * 12 + 11, none⟩ = some (.bool b1) := hk 11 _ rfl
      have HOP := hide ho
      clear hk ho hcs
      cases ha : actB kind with
      | false =>
        go_wp2_with (first | (go_at_call 8; refine (isAct_ok _ _).mono ?_; rintro e wn ⟨rfl, hw⟩; rw [hw, ha]; clear hw wn))
        have z := (unhide HB).size
        exact ⟨⟨i + 1, ⟨cap, A, fu, dn⟩, S, by go_num, by omega, by omega, DiskOK.more ((unhide HD).below (bal (Below.refl _ _) _)) (by omega), unhide HI, unhide H6, unhide HS, (unhide HB).trans ((bal (Below.refl _ _) _).mono z)⟩, by simp [intOf]; omega⟩
      | true =>
        go_wp2_with (first | (go_at_call 8; refine (isAct_ok _ _).mono ?_; rintro e wn ⟨rfl, hw⟩; rw [hw, ha]; clear hw wn))
        obtain ⟨w3, hw3⟩ : ∃ w3, w3 = wr.alloc (.cells #[.int .i64 dk, .int .i64 kind, .string nm, .string to, .slice pb bs.length cb, .int .i64 at0, .int .i64 nn, .slice pk ks.length ck, .int .i64 c1, .slice pf lf cf, .int .i64 f1, .bool b1] 33) := ⟨_, rfl⟩
        have b3 : Below wr.heap.size wr w3 := by rw [hw3]; exact bal (Below.refl _ _) _
        have z3 : w3.heap.size = wr.heap.size + 1 := by rw [hw3]; simp
        have q0 : w3.cell? ⟨wr.heap.size, 0, none⟩ = some (.int .i64 dk) := by rw [hw3, World.cell?_alloc_mark]; rfl
        have q1 : w3.cell? ⟨wr.heap.size, 1, none⟩ = some (.int .i64 kind) := by rw [hw3, World.cell?_alloc_mark]; rfl
        have q2 : w3.cell? ⟨wr.heap.size, 2, none⟩ = some (.string nm) := by rw [hw3, World.cell?_alloc_mark]; rfl
        have q3 : w3.cell? ⟨wr.heap.size, 3, none⟩ = some (.string to) := by rw [hw3, World.cell?_alloc_mark]; rfl
        have q4 : w3.cell? ⟨wr.heap.size, 4, none⟩ = some (.slice pb bs.length cb) := by rw [hw3, World.cell?_alloc_mark]; rfl
        have q5 : w3.cell? ⟨wr.heap.size, 5, none⟩ = some (.int .i64 at0) := by rw [hw3, World.cell?_alloc_mark]; rfl
        have q6 : w3.cell? ⟨wr.heap.size, 6, none⟩ = some (.int .i64 nn) := by rw [hw3, World.cell?_alloc_mark]; rfl
        have q7 : w3.cell? ⟨wr.heap.size, 7, none⟩ = some (.slice pk ks.length ck) := by rw [hw3, World.cell?_alloc_mark]; rfl
        have q8 : w3.cell? ⟨wr.heap.size, 8, none⟩ = some (.int .i64 c1) := by rw [hw3, World.cell?_alloc_mark]; rfl
        have q9 : w3.cell? ⟨wr.heap.size, 9, none⟩ = some (.slice pf lf cf) := by rw [hw3, World.cell?_alloc_mark]; rfl
        have q10 : w3.cell? ⟨wr.heap.size, 10, none⟩ = some (.int .i64 f1) := by rw [hw3, World.cell?_alloc_mark]; rfl
        have q11 : w3.cell? ⟨wr.heap.size, 11, none⟩ = some (.bool b1) := by rw [hw3, World.cell?_alloc_mark]; rfl
        rw [← hw3]
        clear hw3 k0 k1 k2 k3 k4 k5 k6 k7 k8 k9 k10 k11
        have OP3 := hide ((unhide HOP).mono b3)
        have D3 := hide ((unhide HD).below b3)
        have B3 : Hid (Below W.heap.size W w3) := (unhide HB).trans (b3.mono (unhide HB).size)
        have SL : Hid (∀ q, S q → q < wr.heap.size) := by obtain ⟨_, _, _, h⟩ := unhide HD; exact h.sl
        clear b3
        obtain ⟨mo3, m3, es3, hD3⟩ := unhide D3
        refine (state_ok hD3 (unhide HI)).mono ?_
        rintro e w4 ⟨⟨v4, he4, fb4, hfb4, hfr4⟩, hb4⟩
        have hfr4 : FilesRow w4 fb4 w4.heap.size v4 A := hfr4
        obtain ⟨p4, c4, rfl⟩ := hfr4.form
        have he4 : e = .returned (.agg #[.int .i64 cap, .slice p4 A.length c4, .int .i64 fu, .bool dn]) := he4
        subst he4
        obtain ⟨L4, hL4⟩ : ∃ L4, L4 = A.length := ⟨_, rfl⟩
        rw [← hL4] at hfr4 ⊢
        have z4 := hb4.size
        have t0 := keep1 hb4 (by omega) q0
        have t1 := keep1 hb4 (by omega) q1
        have t2 := keep1 hb4 (by omega) q2
        have t3 := keep1 hb4 (by omega) q3
        have t4 := keep1 hb4 (by omega) q4
        have t5 := keep1 hb4 (by omega) q5
        have t6 := keep1 hb4 (by omega) q6
        have t7 := keep1 hb4 (by omega) q7
        have t8 := keep1 hb4 (by omega) q8
        have t9 := keep1 hb4 (by omega) q9
        have t10 := keep1 hb4 (by omega) q10
        have t11 := keep1 hb4 (by omega) q11
        have OP4 := hide ((unhide OP3).mono hb4)
        have D4 := hide ((unhide D3).below hb4)
        have B4 : Hid (Below W.heap.size W w4) := (unhide B3).trans (hb4.mono (unhide B3).size)
        have F4 := hide hfr4; have HL4 := hide hL4
        clear hb4 hfr4 hL4 hD3 q0 q1 q2 q3 q4 q5 q6 q7 q8 q9 q10 q11
        have ta0 := fun o => keep1 (bal (Below.refl w4.heap.size w4) o) (by omega) t0
        have ta1 := fun o => keep1 (bal (Below.refl w4.heap.size w4) o) (by omega) t1
        have ta2 := fun o => keep1 (bal (Below.refl w4.heap.size w4) o) (by omega) t2
        have ta3 := fun o => keep1 (bal (Below.refl w4.heap.size w4) o) (by omega) t3
        have ta4 := fun o => keep1 (bal (Below.refl w4.heap.size w4) o) (by omega) t4
        have ta5 := fun o => keep1 (bal (Below.refl w4.heap.size w4) o) (by omega) t5
        have ta6 := fun o => keep1 (bal (Below.refl w4.heap.size w4) o) (by omega) t6
        have ta7 := fun o => keep1 (bal (Below.refl w4.heap.size w4) o) (by omega) t7
        have ta8 := fun o => keep1 (bal (Below.refl w4.heap.size w4) o) (by omega) t8
        have ta9 := fun o => keep1 (bal (Below.refl w4.heap.size w4) o) (by omega) t9
        have ta10 := fun o => keep1 (bal (Below.refl w4.heap.size w4) o) (by omega) t10
        have ta11 := fun o => keep1 (bal (Below.refl w4.heap.size w4) o) (by omega) t11
        clear t0 t1 t2 t3 t4 t5 t6 t7 t8 t9 t10 t11
        go_wp2_with fail
        obtain ⟨w5, hw5⟩ : ∃ w5, w5 = w4.alloc (.cells #[.int .i64 cap, .slice p4 L4 c4, .int .i64 fu, .bool dn] 31) := ⟨_, rfl⟩
        have b5 : Below w4.heap.size w4 w5 := by rw [hw5]; exact bal (Below.refl _ _) _
        have z5 : w5.heap.size = w4.heap.size + 1 := by rw [hw5]; simp
        have kd5 : w5.cell? ⟨wr.heap.size, 1, none⟩ = some (.int .i64 kind) := by rw [hw5]; exact ta1 _
        have r0 : w5.cell? ⟨w4.heap.size, 0, none⟩ = some (.int .i64 cap) := by rw [hw5, World.cell?_alloc_mark]; rfl
        have r1 : w5.cell? ⟨w4.heap.size, 1, none⟩ = some (.slice p4 L4 c4) := by rw [hw5, World.cell?_alloc_mark]; rfl
        have r2 : w5.cell? ⟨w4.heap.size, 2, none⟩ = some (.int .i64 fu) := by rw [hw5, World.cell?_alloc_mark]; rfl
        have r3 : w5.cell? ⟨w4.heap.size, 3, none⟩ = some (.bool dn) := by rw [hw5, World.cell?_alloc_mark]; rfl
        rw [← hw5]
        clear hw5 ta0 ta1 ta2 ta3 ta4 ta5 ta6 ta7 ta8 ta9 ta10 ta11
        have OP5 := hide ((unhide OP4).mono b5)
        have D5 := hide ((unhide D4).below b5)
        have B5 : Hid (Below W.heap.size W w5) := (unhide B4).trans (b5.mono (unhide B4).size)
        have F5 := hide ((unhide F4).below (Nat.le_refl _) b5)
        clear b5
        have HR := act_rnd ⟨kind, nm, to, bs, nn, ks⟩ ⟨cap, A, fu, dn⟩ ha (unhide HI)
        have HI' := acts_inv (o := ⟨kind, nm, to, bs, nn, ks⟩) (unhide HI)
        have H6' := six_act (o := ⟨kind, nm, to, bs, nn, ks⟩) (unhide H6)
        have HA := acts_ok (unhide D5) (by omega) (unhide HI) ⟨kind, nm, to, bs, nn, ks⟩ dk at0 pb cb pk ck c1 f1 pf lf cf b1 ha (unhide OP5)
        generalize actK ⟨kind, nm, to, bs, nn, ks⟩ ⟨cap, A, fu, dn⟩ = R at HR HI' H6' HA
        obtain ⟨⟨cap', A', fu', dn'⟩, er⟩ := R
        have HR := hide HR; have HI' := hide HI'; have H6' := hide H6'
        refine HA.mono ?_
        clear HA
        rintro e w6 ⟨rfl, S6, hd6, hs6⟩
        dsimp only at hd6 ⊢
        have z6 := hs6.size
        have n1 : ¬ S wr.heap.size := fun h' => by have := unhide SL _ h'; omega
        have n2 : ¬ S w4.heap.size := fun h' => by have := unhide SL _ h'; omega
        have kd6 := sep_ne hs6 kd5 n1
        have ra0 := sep_ne hs6 r0 n2
        have ra1 := sep_ne hs6 r1 n2
        have ra2 := sep_ne hs6 r2 n2
        have ra3 := sep_ne hs6 r3 n2
        have F6 := hide ((unhide F5).sep (by omega) hs6 (fun q hq => by have := unhide SL _ hq; omega))
        have D6 := hide hd6
        have S6' : Hid (∀ q, S6 q → W.heap.size ≤ q) := hs6.from (unhide HS) (unhide B5).size
        have B6 : Hid (Below W.heap.size W w6) := (unhide B5).trans (hs6.below (unhide HS) (unhide B5).size)
        clear hd6 hs6 n1 n2 kd5 r0 r1 r2 r3
        go_wp2_with fail
        obtain ⟨mo6, m6, es6, hD6⟩ := unhide D6
        refine (state_ok hD6 (unhide HI')).mono ?_
        rintro e w7 ⟨⟨v7, he7, fb7, hfb7, hfr7⟩, hb7⟩
        have hfr7 : FilesRow w7 fb7 w7.heap.size v7 A' := hfr7
        obtain ⟨p7, c7, rfl⟩ := hfr7.form
        have he7 : e = .returned (.agg #[.int .i64 cap', .slice p7 A'.length c7, .int .i64 fu', .bool dn']) := he7
        subst he7
        obtain ⟨L7, hL7⟩ : ∃ L7, L7 = A'.length := ⟨_, rfl⟩
        rw [← hL7] at hfr7 ⊢
        have z7 := hb7.size
        have kd7 := keep1 hb7 (by omega) kd6
        have rb0 := keep1 hb7 (by omega) ra0
        have rb1 := keep1 hb7 (by omega) ra1
        have rb2 := keep1 hb7 (by omega) ra2
        have rb3 := keep1 hb7 (by omega) ra3
        have D7 := hide ((unhide D6).below hb7)
        have B7 : Hid (Below W.heap.size W w7) := (unhide B6).trans (hb7.mono (unhide B6).size)
        have F7 := hide ((unhide F6).below (by omega) hb7)
        have E7 := hide hfr7; have HL7 := hide hL7
        clear hb7 hfr7 hL7 hD6 kd6 ra0 ra1 ra2 ra3
        have kda := fun o => keep1 (bal (Below.refl w7.heap.size w7) o) (by omega) kd7
        have rc0 := fun o => keep1 (bal (Below.refl w7.heap.size w7) o) (by omega) rb0
        have rc1 := fun o => keep1 (bal (Below.refl w7.heap.size w7) o) (by omega) rb1
        have rc2 := fun o => keep1 (bal (Below.refl w7.heap.size w7) o) (by omega) rb2
        have rc3 := fun o => keep1 (bal (Below.refl w7.heap.size w7) o) (by omega) rb3
        clear kd7 rb0 rb1 rb2 rb3
        obtain ⟨w8, hw8⟩ : ∃ w8, w8 = w7.alloc (.cells #[.int .i64 cap', .slice p7 L7 c7, .int .i64 fu', .bool dn'] 31) := ⟨_, rfl⟩
        have b8 : Below w7.heap.size w7 w8 := by rw [hw8]; exact bal (Below.refl _ _) _
        have z8 : w8.heap.size = w7.heap.size + 1 := by rw [hw8]; simp
        have kd8 : Hid (w8.cell? ⟨wr.heap.size, 1, none⟩ = some (.int .i64 kind)) := by rw [hw8]; exact kda _
        have r0 : Hid (w8.cell? ⟨w4.heap.size, 0, none⟩ = some (.int .i64 cap)) := by rw [hw8]; exact rc0 _
        have r1 : Hid (w8.cell? ⟨w4.heap.size, 1, none⟩ = some (.slice p4 L4 c4)) := by rw [hw8]; exact rc1 _
        have r2 : Hid (w8.cell? ⟨w4.heap.size, 2, none⟩ = some (.int .i64 fu)) := by rw [hw8]; exact rc2 _
        have r3 : Hid (w8.cell? ⟨w4.heap.size, 3, none⟩ = some (.bool dn)) := by rw [hw8]; exact rc3 _
        have s0 : Hid (w8.cell? ⟨w7.heap.size, 0, none⟩ = some (.int .i64 cap')) := by rw [hw8, World.cell?_alloc_mark]; rfl
        have s1 : Hid (w8.cell? ⟨w7.heap.size, 1, none⟩ = some (.slice p7 L7 c7)) := by rw [hw8, World.cell?_alloc_mark]; rfl
        have s2 : Hid (w8.cell? ⟨w7.heap.size, 2, none⟩ = some (.int .i64 fu')) := by rw [hw8, World.cell?_alloc_mark]; rfl
        have s3 : Hid (w8.cell? ⟨w7.heap.size, 3, none⟩ = some (.bool dn')) := by rw [hw8, World.cell?_alloc_mark]; rfl
        have rcc0 : ∀ o, ((w7.alloc (.cells #[.int .i64 cap', .slice p7 L7 c7, .int .i64 fu', .bool dn'] 31)).alloc o).cell? ⟨w4.heap.size, 0, none⟩ = some (.int .i64 cap) := fun o => by rw [← hw8]; exact keep1 (bal (Below.refl w8.heap.size w8) o) (by omega) (unhide r0)
        have rcc1 : ∀ o, ((w7.alloc (.cells #[.int .i64 cap', .slice p7 L7 c7, .int .i64 fu', .bool dn'] 31)).alloc o).cell? ⟨w4.heap.size, 1, none⟩ = some (.slice p4 L4 c4) := fun o => by rw [← hw8]; exact keep1 (bal (Below.refl w8.heap.size w8) o) (by omega) (unhide r1)
        have rcc2 : ∀ o, ((w7.alloc (.cells #[.int .i64 cap', .slice p7 L7 c7, .int .i64 fu', .bool dn'] 31)).alloc o).cell? ⟨w4.heap.size, 2, none⟩ = some (.int .i64 fu) := fun o => by rw [← hw8]; exact keep1 (bal (Below.refl w8.heap.size w8) o) (by omega) (unhide r2)
        have rcc3 : ∀ o, ((w7.alloc (.cells #[.int .i64 cap', .slice p7 L7 c7, .int .i64 fu', .bool dn'] 31)).alloc o).cell? ⟨w4.heap.size, 3, none⟩ = some (.bool dn) := fun o => by rw [← hw8]; exact keep1 (bal (Below.refl w8.heap.size w8) o) (by omega) (unhide r3)
        have scc0 : ∀ o, ((w7.alloc (.cells #[.int .i64 cap', .slice p7 L7 c7, .int .i64 fu', .bool dn'] 31)).alloc o).cell? ⟨w7.heap.size, 0, none⟩ = some (.int .i64 cap') := fun o => by rw [← hw8]; exact keep1 (bal (Below.refl w8.heap.size w8) o) (by omega) (unhide s0)
        have scc1 : ∀ o, ((w7.alloc (.cells #[.int .i64 cap', .slice p7 L7 c7, .int .i64 fu', .bool dn'] 31)).alloc o).cell? ⟨w7.heap.size, 1, none⟩ = some (.slice p7 L7 c7) := fun o => by rw [← hw8]; exact keep1 (bal (Below.refl w8.heap.size w8) o) (by omega) (unhide s1)
        have scc2 : ∀ o, ((w7.alloc (.cells #[.int .i64 cap', .slice p7 L7 c7, .int .i64 fu', .bool dn'] 31)).alloc o).cell? ⟨w7.heap.size, 2, none⟩ = some (.int .i64 fu') := fun o => by rw [← hw8]; exact keep1 (bal (Below.refl w8.heap.size w8) o) (by omega) (unhide s2)
        have scc3 : ∀ o, ((w7.alloc (.cells #[.int .i64 cap', .slice p7 L7 c7, .int .i64 fu', .bool dn'] 31)).alloc o).cell? ⟨w7.heap.size, 3, none⟩ = some (.bool dn') := fun o => by rw [← hw8]; exact keep1 (bal (Below.refl w8.heap.size w8) o) (by omega) (unhide s3)
        have D8 := hide ((unhide D7).below b8)
        have B8 : Hid (Below W.heap.size W w8) := (unhide B7).trans (b8.mono (unhide B7).size)
        have F8 := hide ((unhide F7).below (by omega) b8)
        have E8 := hide ((unhide E7).below (Nat.le_refl _) b8)
        have H8 := hide hw8
        clear b8 hw8
        have fin : Hid (∀ wz, Below w8.heap.size w8 wz → LRel W n (.int .i64 ((i : Int) + 1)) wz ∧ n - (intOf (.int .i64 ((i : Int) + 1))).toNat < n - (intOf (.int .i64 (i : Int))).toNat) := fun wz hz =>
          ⟨⟨i + 1, ⟨cap', A', fu', dn'⟩, S6, by go_num, by omega, by omega, DiskOK.more ((unhide D8).below hz) (by omega), unhide HI', unhide H6', unhide S6', (unhide B8).trans (hz.mono (unhide B8).size)⟩, by simp [intOf]; omega⟩
        have am4 : Hid (A.length ≤ 64) := (unhide HI).many
        have hfu : Hid (fu ≤ 1048576) := (unhide HI).fu1
        clear D8 D7 D6 D5 D4 D3 HD HI H6 HI' H6' HS OP3 OP4 OP5 HOP B3 B4 B5 B6 B7 F4 F5 F6 F7 E7 mo3 m3 es3 mo6 m6 es6
        rcases unhide HR with ⟨he, hK, hd, hk⟩ | ⟨he, he', hK, hd, hk⟩ | ⟨he, he', hK, hd⟩ | ⟨he, hK, hd, hf⟩ | ⟨he, hk⟩ | ⟨he, hd, hk⟩ | ⟨he, hd, h3, h7, hf, hf'⟩ | ⟨he, hd, h3, h7, hf, hf'⟩
        · dsimp only at he hK hd hk
          injection hK with e1 e2 e3 e4
          subst he hd e1 e2 e3 e4
          clear HR
          go_wp2_with fail
          rw [← unhide H8]
          refine (same_ok _ _ true (unhide F8) (unhide E8) (by omega) (by omega) (unhide am4)).mono ?_
          rintro e w9 ⟨rfl, hb9⟩
          have z9 := hb9.size
          have kd9 := keep1 hb9 (by omega) (unhide kd8)
          have r90 := keep1 hb9 (by omega) (unhide r0)
          have s90 := keep1 hb9 (by omega) (unhide s0)
          have r91 := keep1 hb9 (by omega) (unhide r1)
          have s91 := keep1 hb9 (by omega) (unhide s1)
          have r92 := keep1 hb9 (by omega) (unhide r2)
          have s92 := keep1 hb9 (by omega) (unhide s2)
          have r93 := keep1 hb9 (by omega) (unhide r3)
          have s93 := keep1 hb9 (by omega) (unhide s3)
          have rd0 := fun o => keep1 (bal (Below.refl w9.heap.size w9) o) (by omega) r90
          have sd0 := fun o => keep1 (bal (Below.refl w9.heap.size w9) o) (by omega) s90
          have rd1 := fun o => keep1 (bal (Below.refl w9.heap.size w9) o) (by omega) r91
          have sd1 := fun o => keep1 (bal (Below.refl w9.heap.size w9) o) (by omega) s91
          have rd2 := fun o => keep1 (bal (Below.refl w9.heap.size w9) o) (by omega) r92
          have sd2 := fun o => keep1 (bal (Below.refl w9.heap.size w9) o) (by omega) s92
          have rd3 := fun o => keep1 (bal (Below.refl w9.heap.size w9) o) (by omega) r93
          have sd3 := fun o => keep1 (bal (Below.refl w9.heap.size w9) o) (by omega) s93
          have F9 := hide ((unhide F8).below (by omega) hb9)
          have E9 := hide ((unhide E8).below (by omega) hb9)
          have HB9 := hide hb9
          clear hb9 rc0 rc1 rc2 rc3 rcc0 rcc1 rcc2 rcc3 scc0 scc1 scc2 scc3 kda
          go_wp2_with fail
          refine (same_ok _ _ true ((unhide F9).below (by omega) (bal (Below.refl _ _) _)) ((unhide E9).below (by omega) (bal (Below.refl _ _) _)) (by simp; omega) (by simp; omega) (unhide am4)).mono ?_
          rintro e w11 ⟨rfl, hb11⟩
          have HB11 := hide hb11
          clear hb11
          go_wp2_with fail
          exact (unhide fin) _ ((unhide HB9).trans ((bal (Below.refl _ _) _).trans ((unhide HB11).mono (by simp)) |>.mono z9))
        · dsimp only at he hK hd hk
          injection hK with e1 e2 e3 e4
          subst hd hk e1 e2 e3 e4
          clear HR
          go_wp2_with fail
          rw [← unhide H8]
          refine (same_ok _ _ true (unhide F8) (unhide E8) (by omega) (by omega) (unhide am4)).mono ?_
          rintro e w9 ⟨rfl, hb9⟩
          have z9 := hb9.size
          have kd9 := keep1 hb9 (by omega) (unhide kd8)
          have r90 := keep1 hb9 (by omega) (unhide r0)
          have s90 := keep1 hb9 (by omega) (unhide s0)
          have r91 := keep1 hb9 (by omega) (unhide r1)
          have s91 := keep1 hb9 (by omega) (unhide s1)
          have r92 := keep1 hb9 (by omega) (unhide r2)
          have s92 := keep1 hb9 (by omega) (unhide s2)
          have r93 := keep1 hb9 (by omega) (unhide r3)
          have s93 := keep1 hb9 (by omega) (unhide s3)
          have rd0 := fun o => keep1 (bal (Below.refl w9.heap.size w9) o) (by omega) r90
          have sd0 := fun o => keep1 (bal (Below.refl w9.heap.size w9) o) (by omega) s90
          have rd1 := fun o => keep1 (bal (Below.refl w9.heap.size w9) o) (by omega) r91
          have sd1 := fun o => keep1 (bal (Below.refl w9.heap.size w9) o) (by omega) s91
          have rd2 := fun o => keep1 (bal (Below.refl w9.heap.size w9) o) (by omega) r92
          have sd2 := fun o => keep1 (bal (Below.refl w9.heap.size w9) o) (by omega) s92
          have rd3 := fun o => keep1 (bal (Below.refl w9.heap.size w9) o) (by omega) r93
          have sd3 := fun o => keep1 (bal (Below.refl w9.heap.size w9) o) (by omega) s93
          have F9 := hide ((unhide F8).below (by omega) hb9)
          have E9 := hide ((unhide E8).below (by omega) hb9)
          have HB9 := hide hb9
          clear hb9 rc0 rc1 rc2 rc3 rcc0 rcc1 rcc2 rcc3 scc0 scc1 scc2 scc3 kda
          go_wp2_with fail
          refine (same_ok _ _ true ((unhide F9).below (by omega) (bal (Below.refl _ _) _)) ((unhide E9).below (by omega) (bal (Below.refl _ _) _)) (by simp; omega) (by simp; omega) (unhide am4)).mono ?_
          rintro e w11 ⟨rfl, hb11⟩
          have HB11 := hide hb11
          clear hb11
          go_wp2_with fail
          exact (unhide fin) _ ((unhide HB9).trans ((bal (Below.refl _ _) _).trans ((unhide HB11).mono (by simp)) |>.mono z9))
        · dsimp only at he he' hK hd
          injection hK with e1 e2 e3 e4
          subst hd e1 e2 e3 e4
          clear HR
          go_wp2_with fail
          rw [← unhide H8]
          refine (same_ok _ _ false ((unhide F8).below (by omega) (bal (Below.refl _ _) _)) ((unhide E8).below (by omega) (bal (Below.refl _ _) _)) (by simp; omega) (by simp; omega) (unhide am4)).mono ?_
          rintro e w11 ⟨rfl, hb11⟩
          have HB11 := hide hb11
          clear hb11
          go_wp2_with fail
          exact (unhide fin) _ ((bal (Below.refl _ _) _).trans ((unhide HB11).mono (by simp)))
        · dsimp only at he hK hd hf
          injection hK with e1 e2 e3 e4
          subst he hd hf e1 e2 e3 e4
          clear HR
          go_wp2_with fail
          rw [← unhide H8]
          refine (same_ok _ _ true ((unhide F8).below (by omega) (bal (Below.refl _ _) _)) ((unhide E8).below (by omega) (bal (Below.refl _ _) _)) (by simp; omega) (by simp; omega) (unhide am4)).mono ?_
          rintro e w11 ⟨rfl, hb11⟩
          have HB11 := hide hb11
          clear hb11
          go_wp2_with fail
          exact (unhide fin) _ ((bal (Below.refl _ _) _).trans ((unhide HB11).mono (by simp)))
        · dsimp only at he hk
          subst he hk
          clear HR rcc0 rcc1 rcc2 rcc3 scc0 scc1 scc2 scc3
          cases dn
          · go_wp2_with fail
            rw [← unhide H8]
            exact (unhide fin) _ (Below.refl _ _)
          · go_wp2_with fail
            rw [← unhide H8]
            exact (unhide fin) _ (Below.refl _ _)
        · dsimp only at he hd hk
          subst he hd hk
          clear HR rcc0 rcc1 rcc2 rcc3 scc0 scc1 scc2 scc3
          go_wp2_with fail
          rw [← unhide H8]
          exact (unhide fin) _ (Below.refl _ _)
        · dsimp only at he hd h3 h7 hf hf'
          subst he hd hf'
          clear HR rcc0 rcc1 rcc2 rcc3 scc0 scc1 scc2 scc3
          have hf0 : ¬ fu = 0 := by omega
          have hf1 : ¬ fu = -1 := by omega
          have hf2 := unhide hfu
          go_wp2_with fail
          rw [← unhide H8]
          exact (unhide fin) _ (Below.refl _ _)
        · dsimp only at he hd h3 h7 hf hf'
          subst he hd hf hf'
          clear HR rcc0 rcc1 rcc2 rcc3 scc0 scc1 scc2 scc3
          go_wp2_with fail
          rw [← unhide H8]
          exact (unhide fin) _ (Below.refl _ _)
    · by_cases h1 : i < n
      · have i1 : (i : Int) < (n : Int) := by omega
        have i2 : ¬ (i : Int) < 400 := by omega
        clear hlt
        go_wp2_with fail
        refine (goes_ok (unhide HD) (by omega) (unhide HI) (unhide H6)).mono ?_
        rintro e w9 ⟨rfl, S9, hs9⟩
        have B9 : Hid (Below W.heap.size W w9) := (unhide HB).trans (hs9.below (unhide HS) (unhide HB).size)
        clear hs9
        go_wp2_with fail
        go_ret
        exact ⟨rfl, unhide B9⟩
      · have i1 : ¬ (i : Int) < (n : Int) := by omega
        clear hlt
        go_wp2_with fail
        refine (goes_ok (unhide HD) (by omega) (unhide HI) (unhide H6)).mono ?_
        rintro e w9 ⟨rfl, S9, hs9⟩
        have B9 : Hid (Below W.heap.size W w9) := (unhide HB).trans (hs9.below (unhide HS) (unhide HB).size)
        clear hs9
        go_wp2_with fail
        go_ret
        exact ⟨rfl, unhide B9⟩
end Go.Proofs.Ytpeohbkigkfcgaa
