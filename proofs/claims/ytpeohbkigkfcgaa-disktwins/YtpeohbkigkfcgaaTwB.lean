/- From (13): a disk made of a state. -/
import Derived.Test.YtpeohbkigkfcgaaTwA
namespace Go.Proofs.Ytpeohbkigkfcgaa
open Go Go.Shelf Go.ChangeShapes Go.WideShapes Go.ChangeAt Go.RowKit Go.Maps Go.Sort
set_option linter.unusedVariables false
theorem ins_last {k : List UInt8} {x : Fl} : ∀ (A : Fs), (∀ y ∈ A, bytesBefore y.1 k = true) → insF (k, x) A = A ++ [(k, x)]
  | [], _ => rfl
  | y :: r, h => by
    unfold insF
    have h1 : (Lit.string k).before (.string y.1) = false := bytes_asymm (h y (by simp))
    rw [h1, ins_last r (fun z hz => h z (by simp [hz]))]
    rfl
theorem put_last {A : Fs} (hO : OrdF A) {j : Nat} {k : List UInt8} {x : Fl} (h : A[j]? = some (k, x)) : putF k x (A.take j) = A.take (j + 1) := by
  have hb : ∀ y ∈ A.take j, bytesBefore y.1 k = true := fun y hy => by
    obtain ⟨i, hi⟩ := List.mem_iff_getElem?.1 hy
    have hij : i < j := by
      have := (List.getElem?_eq_some_iff.1 hi).1
      rw [List.length_take] at this
      omega
    rw [List.getElem?_take_of_lt hij] at hi
    obtain ⟨hi1, hi2⟩ := List.getElem?_eq_some_iff.1 hi
    obtain ⟨hj1, hj2⟩ := List.getElem?_eq_some_iff.1 h
    have h2 := List.pairwise_iff_getElem.1 hO i j hi1 hj1 hij
    rw [hi2, hj2] at h2
    exact h2
  have hn : getF k (A.take j) = none := get_none_iff.2 fun p hp e => by
    have h1 := hb p hp
    rw [e] at h1
    have := bytes_asymm h1
    rw [h1] at this
    cases this
  unfold putF
  rw [del_none hn, ins_last _ hb, List.take_add_one, h]
  rfl
theorem BytesAt.same {W W' : World} {u : Value} {bs : List UInt8} (h : BytesAt W u bs) (hh : W'.heap = W.heap) : BytesAt W' u bs := h.far (fun q _ => by rw [hh])
set_option maxRecDepth 100000 in
set_option maxHeartbeats 4000000 in
theorem from_ok {w : World} {v : Value} {cap fu : Int} {dn : Bool} {A : Fs} {b e : Nat} (h : FilesRow w b e v A) (he : e ≤ w.heap.size) (hI : Inv ⟨cap, A, fu, dn⟩) (hd : DnF ⟨cap, A, fu, dn⟩) :
    Calls Try.prog 13 #[.agg #[.int .i64 cap, v, .int .i64 fu, .bool dn]] w fun e w' => ∃ d, e = .returned (.tuple #[.pointer (some ⟨d, 0, none⟩), .int .i64 0]) ∧ ∃ S, DiskOK w' d 64 ⟨cap, A, fu, dn⟩ S ∧ (∀ q, S q → w.heap.size ≤ q) ∧ Below w.heap.size w w' := by
  obtain ⟨pa, ca, rfl⟩ := h.form
  obtain ⟨L, hL⟩ : ∃ L, L = A.length := ⟨_, rfl⟩
  have hm : L ≤ 64 := by rw [hL]; exact hI.many
  rw [← hL] at h ⊢
  obtain ⟨w1, hw1⟩ : ∃ w1, w1 = w.alloc (.cells #[.int .i64 cap, .slice pa L ca, .int .i64 fu, .bool dn] 31) := ⟨_, rfl⟩
  have b1 : Below w.heap.size w w1 := by rw [hw1]; exact bal (Below.refl _ _) _
  have z1 : w1.heap.size = w.heap.size + 1 := by rw [hw1]; simp
  have k0 : w1.cell? ⟨w.heap.size, 0, none⟩ = some (.int .i64 cap) := by rw [hw1, World.cell?_alloc_mark]; rfl
  have k1 : w1.cell? ⟨w.heap.size, 1, none⟩ = some (.slice pa L ca) := by rw [hw1, World.cell?_alloc_mark]; rfl
  have k2 : w1.cell? ⟨w.heap.size, 2, none⟩ = some (.int .i64 fu) := by rw [hw1, World.cell?_alloc_mark]; rfl
  have k3 : w1.cell? ⟨w.heap.size, 3, none⟩ = some (.bool dn) := by rw [hw1, World.cell?_alloc_mark]; rfl
  have HV := hide (valid_ok (h.below he b1) (Nat.le_trans he b1.size) hI hd)
  have H1 := hide hw1; have B1 := hide b1; have HA := hide h; have HI := hide hI; have HL := hide hL
  clear hw1 b1 h hI hd hL
  go_enter Try.func13, Try.ntmps13
  go_wp2_with fail
  rw [← unhide H1]
  refine (unhide HV).mono ?_
  rintro e w2 ⟨rfl, hb2⟩
  have z2 := hb2.size
  have q0 := keep1 hb2 (by omega) k0
  have q1 := keep1 hb2 (by omega) k1
  have q2 := keep1 hb2 (by omega) k2
  have q3 := keep1 hb2 (by omega) k3
  have B2 : Hid (Below w.heap.size w w2) := (unhide B1).trans (hb2.mono (unhide B1).size)
  have q1a := fun o => keep1 (bal (Below.refl w2.heap.size w2) o) (by omega) q1
  clear hb2 k0 k1 k2 k3 H1 HV
  go_wp2_with fail
  go_loopw [21] (fun u wr => ∃ (j : Nat) (S : Nat → Prop), j ≤ L ∧ u = .int .i64 (j : Int) ∧ DiskOK wr w2.heap.size j ⟨cap, A.take j, fu, dn⟩ S ∧ (∀ q, S q → w.heap.size ≤ q) ∧ Below w.heap.size w wr) (fun u _ => L - (intOf u).toNat)
  case atStart => exact ⟨0, _, Nat.zero_le _, rfl, ⟨none, 0, [], new_is cap w2 fu dn⟩, fun q e => by omega, (unhide B2).trans ((bal (Below.refl _ _) _).mono (unhide B2).size)⟩
  case round =>
    obtain ⟨j, S, hj, rfl, hD, hS, hbr⟩ := hrel
    have HD := hide hD; have HS := hide hS; have HBR := hide hbr
    by_cases hlt : j < L
    · have hkx : ∃ k x, A[j]? = some (k, x) := by
        have : j < A.length := by rw [← unhide HL]; exact hlt
        exact ⟨_, _, List.getElem?_eq_getElem this⟩
      obtain ⟨k, x, hkx⟩ := hkx
      have hmem := List.mem_of_getElem? hkx
      have hnm : nameS ⟨k.toArray⟩ = true := (unhide HI).nm _ hmem
      have hxl : x.bs.length ≤ 1048576 := by
        have h1 := get_le_tot (get_at (unhide HI).ord hkx)
        have h2 := (unhide HI).tot
        have h3 := (unhide HI).cap1
        simp only at h1 h2 h3
        omega
      have hput := put_last (unhide HI).ord hkx
      obtain ⟨ga, xa, p1, c1, b1', ea, la, a0, a1, a2, ra⟩ := (unhide HA).at hkx
      injection ea with ea eL ea3
      subst ea ea3
      clear eL
      obtain ⟨s, hs⟩ : ∃ s : ByteArray, s = ⟨k.toArray⟩ := ⟨_, rfl⟩
      have a0 : w.cell? ⟨ga, j * 3, none⟩ = some (.string s) := by rw [hs]; exact a0
      rw [← hs] at hnm
      have hsk : s.data.toList = k := by rw [hs]
      have hsz : s.size ≤ maxLen := by have := nameS_size hnm; unfold maxLen; omega
      have a0 := keep1 hbr la a0
      have a1 := keep1 hbr la a1
      have a2 := keep1 hbr la a2
      have hra := own_below ra hbr
      obtain ⟨w4, hw4⟩ : ∃ w4, w4 = wr.alloc (.cells #[.string s, .slice p1 x.bs.length c1, .int .i64 (x.sy : Int)] 70) := ⟨_, rfl⟩
      have b4 : Below wr.heap.size wr w4 := by rw [hw4]; exact bal (Below.refl _ _) _
      have z4 : w4.heap.size = wr.heap.size + 1 := by rw [hw4]; simp
      have kf0 : w4.cell? ⟨wr.heap.size, 0, none⟩ = some (.string s) := by rw [hw4, World.cell?_alloc_mark]; rfl
      have kf1 : w4.cell? ⟨wr.heap.size, 1, none⟩ = some (.slice p1 x.bs.length c1) := by rw [hw4, World.cell?_alloc_mark]; rfl
      have kf2 : w4.cell? ⟨wr.heap.size, 2, none⟩ = some (.int .i64 (x.sy : Int)) := by rw [hw4, World.cell?_alloc_mark]; rfl
      have HCL := hide (clone_ok (w := w4.drew) p1 c1 x.bs ((BytesAt.of_row (own_below hra b4)).far (fun _ _ => rfl)) hxl)
      have H5 : Hid (∀ w5, Below w4.heap.size w4 w5 → (w5.cell? ⟨wr.heap.size, 0, none⟩ = some (.string s) ∧ w5.cell? ⟨wr.heap.size, 1, none⟩ = some (.slice p1 x.bs.length c1) ∧ w5.cell? ⟨wr.heap.size, 2, none⟩ = some (.int .i64 (x.sy : Int)))) := fun w5 hb => ⟨keep1 hb (by omega) kf0, keep1 hb (by omega) kf1, keep1 hb (by omega) kf2⟩
      have HPUT : Hid (∀ w5 p2 c2, Below w4.heap.size w4 w5 → w5.ownsRow w4.heap.size 5 1 (.slice p2 x.bs.length c2) x.bs.length (bcs x.bs) →
          Calls Try.prog 37 #[.pointer (some ⟨w2.heap.size, 0, none⟩), .string s, .agg #[.slice p2 x.bs.length c2, .int .i64 (x.sy : Int)]] w5 fun e w' => (∃ r, e = .returned r) ∧ ∃ S', DiskOK w' w2.heap.size (j + 1) ⟨cap, A.take (j + 1), fu, dn⟩ S' ∧ (∀ q, S' q → w.heap.size ≤ q) ∧ Below w.heap.size w w') := by
        intro w5 p2 c2 hb5 hr5
        have hB5 : Below wr.heap.size wr w5 := b4.trans (hb5.mono (by omega))
        obtain ⟨mo, n, es, hDi⟩ := hD.below hB5
        have hnew : ∀ q, (Value.slice p2 x.bs.length c2).ownBlock = some q → w4.heap.size ≤ q ∧ q < w5.heap.size := fun q hq => hr5.lt q hq
        have hSl : ∀ q, S q → q < wr.heap.size := hD.sl
        have hDi' : DiskIs w5 w2.heap.size j ⟨cap, A.take j, fu, dn⟩ (fun q => S q ∨ (Value.slice p2 x.bs.length c2).ownBlock = some q) mo n es := hDi.mono (fun q => .inl) (fun q hq => hq.elim (hDi.sl q) (fun h' => (hnew q h').2))
        have := put_is hDi' (by omega) s hsz p2 c2 x (row_base hr5 (Nat.zero_le _)) (fun q hq => ⟨.inr hq, fun e => by have h1 := (hnew q hq).1; have h2 := hSl _ hDi.sd; omega, fun e => by have h1 := (hnew q hq).1; have h2 := hSl _ (hDi.mb q e).2.1; omega, fun e he _ h' => by have h1 := (hnew q hq).1; have h2 := hSl _ (hDi.eb e he q h'); omega⟩)
        refine this.mono ?_
        rintro e w' ⟨hr, S', hok, hsep⟩
        have hA' : ({ cap := cap, A := putF s.data.toList x (A.take j), fuse := fu, down := dn } : Dk) = ⟨cap, A.take (j + 1), fu, dn⟩ := by rw [hsk, hput]
        have hS5 : ∀ q, (S q ∨ (Value.slice p2 x.bs.length c2).ownBlock = some q) → w.heap.size ≤ q := fun q hq => hq.elim (hS q) (fun h' => by have h1 := (hnew q h').1; have := hbr.size; omega)
        have hz5 : w.heap.size ≤ w5.heap.size := Nat.le_trans hbr.size hB5.size
        refine ⟨hr, S', ?_, hsep.from hS5 hz5, (hbr.trans (hB5.mono hbr.size)).trans (hsep.below hS5 hz5)⟩
        rw [← hA']
        exact hok
      have i0 : (0 : Int) ≤ (j : Int) := by omega
      have i1 : (j : Int) < (L : Int) := by omega
      have H4 := hide hw4
      clear hw4 b4 hra ra hD hS hbr hput hkx hmem hs hsk hnm hxl
      go_wp2_with fail
      rw [← unhide H4]
      go_region_law (first
        | ((go_simp; go_at_call 31; refine (unhide HCL).mono ?_; rintro e w5 ⟨⟨p2, c2, rfl, hr5⟩, hb5'⟩; have HB5 : Hid (Below w4.heap.size w4 w5) := ⟨hb5'.os, hb5'.tape, hb5'.output, hb5'.size, hb5'.block⟩; obtain ⟨s0, s1, s2⟩ := unhide H5 w5 (unhide HB5); have R5 := hide hr5; clear hr5 hb5'))
        | ((go_simp; go_at_call 37; refine (unhide HPUT w5 p2 c2 (unhide HB5) (unhide R5)).mono ?_; rintro e w6 ⟨⟨r, rfl⟩, hres⟩; have R6 := hide hres; clear hres)))
      all_goals go_wp2_with fail
      all_goals (obtain ⟨S6, hd6, hs6, hb6⟩ := unhide R6; exact ⟨⟨j + 1, S6, by omega, by go_num, hd6, hs6, hb6⟩, by simp [intOf]; omega⟩)
    · have j1 : ¬ (j : Int) < (L : Int) := by omega
      clear hbr hD hS
      go_wp2_with fail
      go_ret2
      have hjL : A.take j = A := List.take_of_length_le (by rw [← unhide HL]; omega)
      have hD := unhide HD
      rw [hjL] at hD
      exact ⟨_, rfl, S, hD.more (by omega), unhide HS, unhide HBR⟩
end Go.Proofs.Ytpeohbkigkfcgaa
