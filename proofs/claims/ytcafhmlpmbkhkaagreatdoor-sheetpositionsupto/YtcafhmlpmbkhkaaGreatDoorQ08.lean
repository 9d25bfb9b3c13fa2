import Derived.Test.YtcafhmlpmbkhkaaGreatDoorQ07
import Derived.Test.YtcafhmlpmbkhkaaGreatDoorQ05
namespace Go.Proofs.YtcafhmlpmbkhkaaGreatDoor
open Go Go.Shelf Go.ChangeShapes Go.WideShapes Go.ChangeAt Go.RowKit Go.Maps
set_option linter.unusedVariables false
set_option linter.unusedSimpArgs false
noncomputable def rngE (dg : Int) (L : List Ch.Ac) (R : List Po) (fr tt : Int) : Int := if dg < 0 ∨ 6 < dg ∨ isDb fr = false ∨ isDb tt = false ∨ tt < fr then 1 else errC L R
def RngOut (w : World) (E : Int) (e : Ending) (w' : World) : Prop := (∃ v, e = .returned (.tuple #[v, .int .i64 E])) ∧ Below w.heap.size w w'
theorem lies_cU {W : World} {p : Option Addr} {R : List Po} (h : Lies kU W p R) {k : Nat} (hk : k < R.length) : ∃ b o, p = some ⟨b, o, none⟩ ∧ W.cell? ⟨b, o + k * 9 + 2, none⟩ = some (.int .i64 R[k].day) ∧ W.cell? ⟨b, o + k * 9 + 5, none⟩ = some (.string R[k].acc) ∧ W.cell? ⟨b, o + k * 9 + 6, none⟩ = some (.int .i64 R[k].amt) := by
  obtain ⟨b, o, e, hb, hr⟩ := h.2 k hk
  exact ⟨b, o, e, hr 2 _ rfl, hr 5 _ rfl, hr 6 _ rfl⟩
set_option maxHeartbeats 1000000 in
theorem rck_yes (a : Int) (w : World) (h : -9223372036854775807 ≤ a) : Calls Tryz.prog 127 #[.int .i64 a] w fun e w' => e = .returned (.int .i64 0) ∧ w' = w := by
  have q : (a == -9223372036854775808) = false := beq_eq_false_iff_ne.2 (by omega)
  have qn : (a != -9223372036854775808) = true := by rw [bne_iff_ne]; omega
  go_enter Tryz.func127, Tryz.ntmps127
  go_wp2
  go_ret
  exact ⟨rfl, rfl⟩
set_option maxHeartbeats 1000000 in
theorem rck_no (w : World) : Calls Tryz.prog 127 #[.int .i64 (-9223372036854775808)] w fun e w' => e = .returned (.int .i64 10) ∧ w' = w := by
  go_enter Tryz.func127, Tryz.ntmps127
  go_wp2
  go_ret
  exact ⟨rfl, rfl⟩
set_option maxRecDepth 100000 in
set_option maxHeartbeats 16000000 in
theorem range_bad {w : World} {pa : Option Addr} {na ca : Nat} {L : List Ch.Ac} {pr : Option Addr} {nr cr : Nat} {R : List Po} (fr tt : Int) (hfr : fits64 fr) (htt : fits64 tt) (dg : Int) (hdg : fits64 dg) (hb : dg < 0 ∨ 6 < dg ∨ isDb fr = false ∨ isDb tt = false ∨ tt < fr) :
    Calls Tryz.prog 108 #[.slice pa na ca, .slice pr nr cr, .int .i64 fr, .int .i64 tt, .int .i64 dg] w (RngOut w (rngE dg L R fr tt)) := by
  have HE : Hid (rngE dg L R fr tt = 1) := by show _ = _; unfold rngE; rw [if_pos hb]
  have HB : Hid (Below w.heap.size w w) := Below.refl _ _
  obtain ⟨df, hdf⟩ : ∃ b, b = isDb fr := ⟨_, rfl⟩
  obtain ⟨dt, hdt⟩ : ∃ b, b = isDb tt := ⟨_, rfl⟩
  have DF := hide (rIsD_any fr w)
  have DT := hide (rIsD_any tt w)
  rw [← hdf] at DF hb
  rw [← hdt] at DT hb
  clear hdf hdt
  by_cases hbad : dg < 0 ∨ 6 < dg
  · have D := hide (rdig_no dg w hbad)
    clear hb hbad
    go_enter Tryz.func108, Tryz.ntmps108
    go_wp2_with (go_at_call 52; refine (unhide D).mono ?_; rintro e wz ⟨rfl, hwz⟩; rw [hwz]; clear hwz wz)
    go_ret2
    exact ⟨⟨_, by rw [unhide HE]; rfl⟩, unhide HB⟩
  · have D := hide (rdig_yes dg w (by omega) (by omega))
    cases df with
    | false =>
      clear hb hbad
      go_enter Tryz.func108, Tryz.ntmps108
      go_wp2_with first | (go_at_call 52; refine (unhide D).mono ?_; rintro e wz ⟨rfl, hwz⟩; rw [hwz]; clear hwz wz) | (go_at_call 96; refine (unhide DF).mono ?_; rintro e wz ⟨rfl, hwz⟩; rw [hwz]; clear hwz wz)
      go_ret2
      exact ⟨⟨_, by rw [unhide HE]; rfl⟩, unhide HB⟩
    | true =>
      cases dt with
      | false =>
        clear hb hbad
        go_enter Tryz.func108, Tryz.ntmps108
        go_wp2_with first | (go_at_call 52; refine (unhide D).mono ?_; rintro e wz ⟨rfl, hwz⟩; rw [hwz]; clear hwz wz) | (go_at_call 96; first | (refine (unhide DF).mono ?_; rintro e wz ⟨rfl, hwz⟩; rw [hwz]; clear hwz wz DF) | (refine (unhide DT).mono ?_; rintro e wz ⟨rfl, hwz⟩; rw [hwz]; clear hwz wz DT))
        go_ret2
        exact ⟨⟨_, by rw [unhide HE]; rfl⟩, unhide HB⟩
      | true =>
        have hlt : tt < fr := by
          rcases hb with h | h | h | h | h
          · exact absurd (.inl h) hbad
          · exact absurd (.inr h) hbad
          · cases h
          · cases h
          · exact h
        clear hb hbad
        go_enter Tryz.func108, Tryz.ntmps108
        go_wp2_with first | (go_at_call 52; refine (unhide D).mono ?_; rintro e wz ⟨rfl, hwz⟩; rw [hwz]; clear hwz wz) | (go_at_call 96; first | (refine (unhide DF).mono ?_; rintro e wz ⟨rfl, hwz⟩; rw [hwz]; clear hwz wz DF) | (refine (unhide DT).mono ?_; rintro e wz ⟨rfl, hwz⟩; rw [hwz]; clear hwz wz DT))
        go_ret2
        exact ⟨⟨_, by rw [unhide HE]; rfl⟩, unhide HB⟩
set_option maxRecDepth 100000 in
set_option maxHeartbeats 16000000 in
theorem range_good {w : World} {pa : Option Addr} {na ca : Nat} {L : List Ch.Ac} (hL : L.length = na) (hLL : Lies Ch.kA w pa L) (hpc : pa = none → ca = 0) (hna : na ≤ 1048576) (hsz : ∀ a ∈ L, (Ch.txN a.nm).size ≤ 1048576) {pr : Option Addr} {nr cr : Nat} {R : List Po} (hR : R.length = nr) (hLR : Lies kU w pr R) (hok : ∀ r ∈ R, PoOk r) (hnr : nr ≤ 1048576) (fr tt : Int) (dg : Int) (hd0 : 0 ≤ dg) (hd6 : dg ≤ 6) (hdf : isDb fr = true) (hdt : isDb tt = true) (hle : fr ≤ tt) :
    Calls Tryz.prog 108 #[.slice pa na ca, .slice pr nr cr, .int .i64 fr, .int .i64 tt, .int .i64 dg] w (RngOut w (rngE dg L R fr tt)) := by
  have hfD := (isDb_iff fr).1 hdf
  have htD := (isDb_iff tt).1 hdt
  have HNB : Hid (rngE dg L R fr tt = errC L R) := by show _ = _; unfold rngE; rw [hdf, hdt, if_neg (by simp; omega)]
  have D0 := hide (rdig_yes dg w hd0 hd6)
  have DF := hide (rIsD_any fr w)
  have DT := hide (rIsD_any tt w)
  rw [hdf] at DF
  rw [hdt] at DT
  have DC := hide (Ch.rfrom_any (c := ca) hL (by omega) hLL hpc (fun a ha => by have := hsz a ha; omega))
  have HLR := hide hLR; have HR := hide hR; have HOK := hide hok; have HNR := hide hnr
  have hlt : ¬ tt < fr := by omega
  have b1 : 1 ≤ fr ∧ fr ≤ 3652059 := hfD
  have b2 : 1 ≤ tt ∧ tt ≤ 3652059 := htD
  clear hfD htD hdf hdt hle hL hLL hpc hna hsz hR hLR hok
  go_enter Tryz.func108, Tryz.ntmps108
  go_wp2_with first | (go_at_call 52; refine (unhide D0).mono ?_; rintro e wz ⟨rfl, hwz⟩; rw [hwz]; clear hwz wz D0) | (go_at_call 96; first | (refine (unhide DF).mono ?_; rintro e wz ⟨rfl, hwz⟩; rw [hwz]; clear hwz wz DF) | (refine (unhide DT).mono ?_; rintro e wz ⟨rfl, hwz⟩; rw [hwz]; clear hwz wz DT))
  refine (unhide DC).mono ?_
  rintro e w1 ⟨⟨hg, d, S, rfl, hrc, hnew⟩ | ⟨hg, rfl⟩, hb1⟩
  · have HEC : Hid (rngE dg L R fr tt = fstU (faultU L) R) := by
      show _ = _
      rw [unhide HNB]
      exact if_pos (Ch.ok_good.2 hg)
    have HRC := hide hrc; have HB1 := hide hb1
    unfold Ch.ptr
    clear hrc hnew hb1 hg DC
    go_wp2_with fail
    go_loopw [14] (fun iv W => ∃ (k : Nat) (K : Int), k ≤ nr ∧ iv = .int .i64 K ∧ K = (k : Int) ∧ Hid ((∀ x ∈ R.take k, faultU L x = 0) ∧ Below w1.heap.size w1 W)) (fun iv _ => ((nr : Int) - intOf iv).toNat)
    case atStart => exact ⟨0, 0, by omega, rfl, rfl, (fun x hx => by simp at hx), Below.refl _ _⟩
    case round =>
      obtain ⟨wo, rfl⟩ : ∃ x, x = wr := ⟨wr, rfl⟩
      obtain ⟨k, K, hk, rfl, hK, HA⟩ := hrel
      by_cases hlt : k < nr
      · have hI : K < (nr : Int) := by omega
        have hK0 : 0 ≤ K := by omega
        have hKt : K.toNat = k := by omega
        have hkR : k < R.length := by have := unhide HR; omega
        have hbo : Below w1.heap.size w1 wo := (unhide HA).2
        have hbw : Below w.heap.size w wo := (unhide HB1).trans (hbo.mono (unhide HB1).size)
        obtain ⟨b, o, ep, -, e5, -⟩ := lies_cU ((unhide HLR).below hbw) hkR
        obtain ⟨x, hx⟩ : ∃ x, x = R[k] := ⟨_, rfl⟩
        rw [← hx] at e5
        have hxm : x ∈ R := by rw [hx]; exact List.getElem_mem hkR
        have hxo := unhide HOK x hxm
        have HTK : Hid (R.take (k + 1) = R.take k ++ [x]) := by show _ = _; rw [List.take_succ_eq_append_getElem hkR, ← hx]
        have HDR : Hid (R = R.take k ++ x :: R.drop (k + 1)) := by have := (List.take_append_drop k R).symm; rw [List.drop_eq_getElem_cons hkR, ← hx] at this; exact this
        have HPRE := hide (unhide HA).1
        have HCE : Hid (∀ W, Below wo.heap.size wo W → W.cell? ⟨b, o + k * 9 + 2, none⟩ = some (.int .i64 x.day) ∧ W.cell? ⟨b, o + k * 9 + 6, none⟩ = some (.int .i64 x.amt)) := fun W hb => by
          obtain ⟨b', o', ep', e2, -, e6⟩ := lies_cU ((unhide HLR).below (hbw.trans (hb.mono hbw.size))) hkR
          rw [ep] at ep'
          cases ep'
          rw [← hx] at e2 e6
          exact ⟨e2, e6⟩
        have D1 := Ch.rfind_any ((unhide HRC).below hbo) x.acc
        obtain ⟨fb, hfb⟩ : ∃ z, z = (Ch.fnd L x.acc.data.toList).isSome := ⟨_, rfl⟩
        obtain ⟨A0, hA0⟩ : ∃ z, z = Ch.findA L x.acc.data.toList := ⟨_, rfl⟩
        rw [← hfb, ← hA0] at D1
        unfold Ch.acV Ch.ptr at D1
        have D1 := hide D1
        obtain ⟨db, hdb⟩ : ∃ z, z = isDb x.day := ⟨_, rfl⟩
        have HFB := hide hfb; have HDB := hide hdb; have HBW := hide hbw; have HBO := hide hbo; have HK := hide hK; have HXO := hide hxo
        subst ep
        clear hkR hbo hbw hx hxm hxo hfb hA0 hdb HA hlt hK
        have HFF : Hid (∀ q, faultU L x = q → q ≠ 0 → rngE dg L R fr tt = q) := fun q hq h0 => by
          rw [unhide HEC, unhide HDR, fstU_pre _ _ _ (unhide HPRE), fstU, if_neg (by rw [hq]; exact h0), hq]
        cases fb with
        | false =>
          have HE : Hid (rngE dg L R fr tt = 61) := unhide HFF 61 (by unfold faultU; rw [if_pos (unhide HFB).symm]) (by decide)
          go_wp2_with (go_at_call 125; refine (unhide D1).mono ?_; rintro e w2 ⟨rfl, hb2⟩; have HB2 : Hid (Below w.heap.size w w2) := (unhide HBW).trans (hb2.mono (unhide HBW).size); clear hb2 D1 e5)
          go_ret2
          exact ⟨⟨_, by rw [unhide HE]; rfl⟩, bal (unhide HB2) _⟩
        | true =>
          have HF1 : Hid (faultU L x = if db = false then 20 else if x.amt = -9223372036854775808 then 10 else 0) := by show _ = _; unfold faultU; rw [← unhide HFB, ← unhide HDB]; rfl
          cases db with
          | false =>
            have HE : Hid (rngE dg L R fr tt = 20) := unhide HFF 20 (unhide HF1) (by decide)
            go_wp2_with first | (go_at_call 125; refine (unhide D1).mono ?_; rintro e w2 ⟨rfl, hb2⟩; have hbA : Below wo.heap.size wo (w2.alloc (.cells #[.string (Ch.txN A0.nm), .int .i64 A0.ty, .int .i64 A0.dy, .bool A0.cl] 139)) := hb2.trans ((bal (Below.refl _ _) _).mono hb2.size); have HB2 : Hid (Below w.heap.size w (w2.alloc (.cells #[.string (Ch.txN A0.nm), .int .i64 A0.ty, .int .i64 A0.dy, .bool A0.cl] 139))) := (unhide HBW).trans (hbA.mono (unhide HBW).size); obtain ⟨e2, e6⟩ := unhide HCE _ hbA; have DD := hide (rIsD_any x.day (w2.alloc (.cells #[.string (Ch.txN A0.nm), .int .i64 A0.ty, .int .i64 A0.dy, .bool A0.cl] 139))); rw [← unhide HDB] at DD; clear hb2 hbA D1 e5) | (go_at_call 96; refine (unhide DD).mono ?_; rintro e wz ⟨rfl, hwz⟩; rw [hwz]; clear hwz wz)
            go_ret2
            exact ⟨⟨_, by rw [unhide HE]; rfl⟩, unhide HB2⟩
          | true =>
            by_cases hm : x.amt = -9223372036854775808
            · have HE : Hid (rngE dg L R fr tt = 10) := unhide HFF 10 (by rw [unhide HF1, hm]; rfl) (by decide)
              go_wp2_with first | (go_at_call 125; refine (unhide D1).mono ?_; rintro e w2 ⟨rfl, hb2⟩; have hbA : Below wo.heap.size wo (w2.alloc (.cells #[.string (Ch.txN A0.nm), .int .i64 A0.ty, .int .i64 A0.dy, .bool A0.cl] 139)) := hb2.trans ((bal (Below.refl _ _) _).mono hb2.size); have HB2 : Hid (Below w.heap.size w (w2.alloc (.cells #[.string (Ch.txN A0.nm), .int .i64 A0.ty, .int .i64 A0.dy, .bool A0.cl] 139))) := (unhide HBW).trans (hbA.mono (unhide HBW).size); obtain ⟨e2, e6⟩ := unhide HCE _ hbA; have DD := hide (rIsD_any x.day (w2.alloc (.cells #[.string (Ch.txN A0.nm), .int .i64 A0.ty, .int .i64 A0.dy, .bool A0.cl] 139))); rw [← unhide HDB] at DD; rw [hm] at e6; clear hb2 hbA D1 e5) | (go_at_call 96; refine (unhide DD).mono ?_; rintro e wz ⟨rfl, hwz⟩; rw [hwz]; clear hwz wz) | (go_at_call 127; refine (rck_no _).mono ?_; rintro e wz ⟨rfl, hwz⟩; rw [hwz]; clear hwz wz)
              go_ret2
              exact ⟨⟨_, by rw [unhide HE]; rfl⟩, unhide HB2⟩
            · have hm2 : -9223372036854775807 ≤ x.amt := by have := (unhide HXO).amt; unfold fits64 at this; omega
              have HF0 : Hid (faultU L x = 0) := by show _ = _; rw [unhide HF1]; simp [hm]
              have HPP : Hid (∀ W, Below wo.heap.size wo W → (∀ x ∈ R.take (k + 1), faultU L x = 0) ∧ Below w1.heap.size w1 W) := fun W hb => by
                refine ⟨fun y hy => ?_, (unhide HBO).trans (hb.mono (unhide HBO).size)⟩
                rw [unhide HTK, List.mem_append, List.mem_singleton] at hy
                rcases hy with hy | rfl
                · exact unhide HPRE y hy
                · exact unhide HF0
              have HM2 := hide hm2
              clear hm hm2
              go_wp2_with first | (go_at_call 125; refine (unhide D1).mono ?_; rintro e w2 ⟨rfl, hb2⟩; have hbA : Below wo.heap.size wo (w2.alloc (.cells #[.string (Ch.txN A0.nm), .int .i64 A0.ty, .int .i64 A0.dy, .bool A0.cl] 139)) := hb2.trans ((bal (Below.refl _ _) _).mono hb2.size); have HNEW := hide (unhide HPP _ hbA); obtain ⟨e2, e6⟩ := unhide HCE _ hbA; have DD := hide (rIsD_any x.day (w2.alloc (.cells #[.string (Ch.txN A0.nm), .int .i64 A0.ty, .int .i64 A0.dy, .bool A0.cl] 139))); rw [← unhide HDB] at DD; have DK := hide (rck_yes x.amt (w2.alloc (.cells #[.string (Ch.txN A0.nm), .int .i64 A0.ty, .int .i64 A0.dy, .bool A0.cl] 139)) (unhide HM2)); clear hb2 hbA D1 e5) | (go_at_call 96; refine (unhide DD).mono ?_; rintro e wz ⟨rfl, hwz⟩; rw [hwz]; clear hwz wz) | (go_at_call 127; refine (unhide DK).mono ?_; rintro e wz ⟨rfl, hwz⟩; rw [hwz]; clear hwz wz)
              exact ⟨⟨k + 1, K + 1, by omega, by go_num, by have := unhide HK; omega, unhide HNEW⟩, by have := unhide HK; simp [intOf]; omega⟩
      · have hI : ¬ K < (nr : Int) := by omega
        have HE : Hid (rngE dg L R fr tt = 0) := by
          have h1 := (unhide HA).1
          rw [List.take_of_length_le (by have := unhide HR; omega)] at h1
          show _ = _
          rw [unhide HEC, fstU_all h1]
        have HB : Hid (Below w.heap.size w wo) := (unhide HB1).trans ((unhide HA).2.mono (unhide HB1).size)
        clear HA hK
        go_wp2_with fail
        go_ret2
        exact ⟨⟨_, by rw [unhide HE]; rfl⟩, unhide HB⟩
  · have HE : Hid (rngE dg L R fr tt = 67) := by
      show _ = _
      rw [unhide HNB]
      exact if_neg (fun h => hg (Ch.ok_good.1 h))
    have HB := hide hb1
    clear hb1 hg DC
    go_wp2_with fail
    go_ret2
    exact ⟨⟨_, by rw [unhide HE]; rfl⟩, unhide HB⟩
theorem range_any {w : World} {pa : Option Addr} {na ca : Nat} {L : List Ch.Ac} (hL : L.length = na) (hLL : Lies Ch.kA w pa L) (hpc : pa = none → ca = 0) (hna : na ≤ 1048576) (hsz : ∀ a ∈ L, (Ch.txN a.nm).size ≤ 1048576) {pr : Option Addr} {nr cr : Nat} {R : List Po} (hR : R.length = nr) (hLR : Lies kU w pr R) (hok : ∀ r ∈ R, PoOk r) (hnr : nr ≤ 1048576) (fr tt : Int) (hfr : fits64 fr) (htt : fits64 tt) (dg : Int) (hdg : fits64 dg) :
    Calls Tryz.prog 108 #[.slice pa na ca, .slice pr nr cr, .int .i64 fr, .int .i64 tt, .int .i64 dg] w (RngOut w (rngE dg L R fr tt)) := by
  by_cases hb : dg < 0 ∨ 6 < dg ∨ isDb fr = false ∨ isDb tt = false ∨ tt < fr
  · exact range_bad fr tt hfr htt dg hdg hb
  · exact range_good (ca := ca) (cr := cr) hL hLL hpc hna hsz hR hLR hok hnr fr tt dg (by omega) (by omega) (by simpa using (fun h => hb (.inr (.inr (.inl h))))) (by simpa using (fun h => hb (.inr (.inr (.inr (.inl h)))))) (by omega)
end Go.Proofs.YtcafhmlpmbkhkaaGreatDoor
namespace Go.Proofs.YtcafhmlpmbkhkaaGreatDoor
open Go Go.Shelf Go.ChangeShapes Go.WideShapes Go.ChangeAt Go.RowKit Go.Maps
set_option linter.unusedVariables false
set_option linter.unusedSimpArgs false
def sg (cr : Bool) (z : Int) : Int := if cr = true then -z else z
def rowA (ty : Int) (cr : Bool) (r : Po) : List Ch.Ac → List Int
  | [] => []
  | a :: L => if Ch.txN a.nm = r.acc ∧ a.ty = ty then sg cr r.amt :: rowA ty cr r L else rowA ty cr r L
def pas (fr tt : Int) (nm : ByteArray) (r : Po) : Bool := cnt fr tt r && (decide (nm = ⟨#[]⟩) || decide (r.acc = nm))
def amsL (L : List Ch.Ac) (fr tt ty : Int) (nm : ByteArray) (cr : Bool) : List Po → List Int
  | [] => []
  | r :: R => (if pas fr tt nm r = true then rowA ty cr r L else []) ++ amsL L fr tt ty nm cr R
theorem rowA_app (ty : Int) (cr : Bool) (r : Po) : ∀ A B : List Ch.Ac, rowA ty cr r (A ++ B) = rowA ty cr r A ++ rowA ty cr r B
  | [], B => rfl
  | a :: A, B => by
    rw [List.cons_append, rowA, rowA, rowA_app ty cr r A B]
    split <;> rfl
theorem amsL_app (L : List Ch.Ac) (fr tt ty : Int) (nm : ByteArray) (cr : Bool) : ∀ A B : List Po, amsL L fr tt ty nm cr (A ++ B) = amsL L fr tt ty nm cr A ++ amsL L fr tt ty nm cr B
  | [], B => rfl
  | a :: A, B => by
    rw [List.cons_append, amsL, amsL, amsL_app L fr tt ty nm cr A B, List.append_assoc]
theorem rowA_len (ty : Int) (cr : Bool) (r : Po) : ∀ A : List Ch.Ac, (rowA ty cr r A).length ≤ A.length
  | [] => Nat.le_refl _
  | a :: A => by
    have := rowA_len ty cr r A
    rw [rowA]
    split <;> simp <;> omega
theorem amsL_len {L : List Ch.Ac} (hL : L.length ≤ 100) (fr tt ty : Int) (nm : ByteArray) (cr : Bool) : ∀ R : List Po, (amsL L fr tt ty nm cr R).length ≤ R.length * 100
  | [] => Nat.le_refl _
  | r :: R => by
    have h1 := amsL_len hL fr tt ty nm cr R
    have h2 := rowA_len ty cr r L
    rw [amsL, List.length_append]
    simp only [List.length_cons]
    split
    · omega
    · simp only [List.length_nil]; omega
theorem rowA_isA {ty : Int} {cr : Bool} {r : Po} (h : isA r.amt) : ∀ A : List Ch.Ac, ∀ z ∈ rowA ty cr r A, isA z
  | [], z, hz => by cases hz
  | a :: A, z, hz => by
    rw [rowA] at hz
    split at hz
    · rcases List.mem_cons.1 hz with rfl | hz
      · unfold sg; unfold isA at *; split <;> omega
      · exact rowA_isA h A z hz
    · exact rowA_isA h A z hz
theorem amsL_isA {L : List Ch.Ac} {fr tt ty : Int} {nm : ByteArray} {cr : Bool} : ∀ {R : List Po}, (∀ r ∈ R, isA r.amt) → ∀ z ∈ amsL L fr tt ty nm cr R, isA z
  | [], h, z, hz => by cases hz
  | r :: R, h, z, hz => by
    rw [amsL, List.mem_append] at hz
    rcases hz with hz | hz
    · split at hz
      · exact rowA_isA (h r (by simp)) L z hz
      · cases hz
    · exact amsL_isA (fun r hr => h r (by simp [hr])) z hz
theorem nil_toL : (⟨#[]⟩ : ByteArray).toList = [] := by rw [ByteArray.toList_eq]
theorem toL_eq {a b : ByteArray} (h : a = b) : (a.toList == b.toList) = true := by rw [h]; simp
def bkO (pa : Option Addr) (na ca : Nat) (pr : Option Addr) (nr cr : Nat) (fr tt : Int) (ov : Bool) : Obj := .cells #[.slice pa na ca, .slice pr nr cr, .int .i64 fr, .int .i64 tt, .bool ov] 157
structure AmAt (w : World) (l : List Int) (lv : Value) (W : World) : Prop where
  own : W.ownsRow w.heap.size 2 1 lv l.length (kN.flat l)
  bel : Below w.heap.size w W
def AmOut (w : World) (l : List Int) (e : Ending) (w' : World) : Prop := ∃ p c, e = .returned (.slice p l.length c) ∧ AmAt w l (.slice p l.length c) w'
theorem AmAt.below {w W W' : World} {l : List Int} {lv : Value} (h : AmAt w l lv W) (hb : Below W.heap.size W W') : AmAt w l lv W' := ⟨own_below h.own hb, h.bel.trans (hb.mono h.bel.size)⟩
theorem lies_cA {W : World} {p : Option Addr} {L : List Ch.Ac} (h : Lies Ch.kA W p L) {k : Nat} (hk : k < L.length) : ∃ b o, p = some ⟨b, o, none⟩ ∧ W.cell? ⟨b, o + k * 4, none⟩ = some (.string (Ch.txN L[k].nm)) ∧ W.cell? ⟨b, o + k * 4 + 1, none⟩ = some (.int .i64 L[k].ty) := by
  obtain ⟨b, o, e, hb, hr⟩ := h.2 k hk
  exact ⟨b, o, e, hr 0 _ rfl, hr 1 _ rfl⟩
attribute [local go_sem ↓] ldU_is
set_option maxRecDepth 100000 in
set_option maxHeartbeats 16000000 in
theorem amounts_any {w : World} {kb : Nat} {pa : Option Addr} {na ca : Nat} {pr : Option Addr} {nr crr : Nat} {fr tt : Int} {ov : Bool} (hbk : w.heap[kb]? = some (bkO pa na ca pr nr crr fr tt ov)) {L : List Ch.Ac} (hL : L.length = na) (hLL : Lies Ch.kA w pa L) (hna : na ≤ 100) {R : List Po} (hR : R.length = nr) (hLR : Lies kU w pr R) (hok : ∀ r ∈ R, isA r.amt) (hnr : nr ≤ 1048576) (ty : Int) (nm : ByteArray) (cr : Bool) :
    Calls Tryz.prog 109 #[.pointer (some ⟨kb, 0, none⟩), .int .i64 ty, .string nm, .bool cr] w (AmOut w (amsL L fr tt ty nm cr R)) := by
  have hkl : kb < w.heap.size := (Array.getElem?_eq_some_iff.1 hbk).1
  have HCB : Hid (∀ W, Below w.heap.size w W → W.cell? ⟨kb, 0, none⟩ = some (.slice pa na ca) ∧ W.cell? ⟨kb, 1, none⟩ = some (.slice pr nr crr) ∧ W.cell? ⟨kb, 2, none⟩ = some (.int .i64 fr) ∧ W.cell? ⟨kb, 3, none⟩ = some (.int .i64 tt)) := fun W hb => by
    have h := (hb.block _ hkl).trans hbk
    unfold bkO at h
    exact ⟨by rw [cell_at h]; rfl, by rw [cell_at h]; rfl, by rw [cell_at h]; rfl, by rw [cell_at h]; rfl⟩
  have H0 : Hid (AmAt w (amsL L fr tt ty nm cr (R.take 0)) (.slice none 0 0) w) := ⟨World.ownsRow_nil _ _ _ _, Below.refl _ _⟩
  have HL := hide hL; have HLL := hide hLL; have HNA := hide hna; have HR := hide hR; have HLR := hide hLR; have HOK := hide hok; have HNR := hide hnr
  clear hbk hL hLL hR hLR hok hkl
  go_enter Tryz.func109, Tryz.ntmps109
  go_wp2_with fail
  go_loopw [9, 10] (fun lv iv W => ∃ (k : Nat) (K : Int), k ≤ nr ∧ iv = .int .i64 K ∧ K = (k : Int) ∧ (∃ p m c, lv = .slice p m c) ∧ Hid (AmAt w (amsL L fr tt ty nm cr (R.take k)) lv W)) (fun _ iv _ => ((nr : Int) - intOf iv).toNat)
  case atStart => exact ⟨0, 0, by omega, rfl, rfl, ⟨_, _, _, rfl⟩, unhide H0⟩
  case round =>
    obtain ⟨wo, rfl⟩ : ∃ x, x = wr := ⟨wr, rfl⟩
    obtain ⟨k, K, hk, rfl, hK, ⟨p, m, c, rfl⟩, HA⟩ := hrel
    have hbo : Below w.heap.size w wo := (unhide HA).bel
    obtain ⟨c0, c1, c2, c3⟩ := unhide HCB wo hbo
    by_cases hlt : k < nr
    · have hI : K < (nr : Int) := by omega
      have hK0 : 0 ≤ K := by omega
      have hKt : K.toNat = k := by omega
      have hkR : k < R.length := by have := unhide HR; omega
      obtain ⟨b, o, ep, hb, hld⟩ := ((unhide HLR).below hbo).ldU hkR
      obtain ⟨x, hx⟩ : ∃ x, x = R[k] := ⟨_, rfl⟩
      rw [← hx] at hld
      have hxm : x ∈ R := by rw [hx]; exact List.getElem_mem hkR
      have hxo := unhide HOK x hxm
      have HTK : Hid (R.take (k + 1) = R.take k ++ [x]) := by show _ = _; rw [List.take_succ_eq_append_getElem hkR, ← hx]
      obtain ⟨w6, hw6⟩ : ∃ W, W = wo.alloc (obU x) := ⟨_, rfl⟩
      have b6 : Below wo.heap.size wo w6 := by rw [hw6]; exact bal (Below.refl _ _) _
      have hh6 : w6.heap[wo.heap.size]? = some (obU x) := by rw [hw6]; exact heap_new _ _
      have HA6 := hide ((unhide HA).below b6)
      have HCX : Hid (∀ W : World, W.heap[wo.heap.size]? = some (obU x) → W.cell? ⟨wo.heap.size, 2, none⟩ = some (.int .i64 x.day) ∧ W.cell? ⟨wo.heap.size, 5, none⟩ = some (.string x.acc) ∧ W.cell? ⟨wo.heap.size, 6, none⟩ = some (.int .i64 x.amt)) := fun W h => u_cells h
      have hw6' : wo.alloc (.cells #[.int .i64 x.seq, .int .i64 x.lin, .int .i64 x.day, .int .i64 x.kin, .string x.key, .string x.acc, .int .i64 x.amt, .string x.tag, .string x.mem] 63) = w6 := by rw [hw6]; rfl
      have bd6 : Below w.heap.size w w6 := hbo.trans (b6.mono hbo.size)
      have HHS : Hid (∀ W, Below w6.heap.size w6 W → (W.cell? ⟨kb, 2, none⟩ = some (.int .i64 fr) ∧ W.cell? ⟨kb, 3, none⟩ = some (.int .i64 tt)) ∧ W.cell? ⟨wo.heap.size, 2, none⟩ = some (.int .i64 x.day) ∧ W.cell? ⟨wo.heap.size, 5, none⟩ = some (.string x.acc)) := fun W hb => by
        obtain ⟨_, _, a2, a3⟩ := unhide HCB W (bd6.trans (hb.mono bd6.size))
        obtain ⟨a4, a5, _⟩ := unhide HCX W ((hb.block _ (Array.getElem?_eq_some_iff.1 hh6).1).trans hh6)
        exact ⟨⟨a2, a3⟩, a4, a5⟩
      subst ep
      unfold cvU at hld
      obtain ⟨⟨d2, d3⟩, d4, d5⟩ := unhide HHS w6 (Below.refl _ _)
      have HK := hide hK; have HXO := hide hxo; have HH6 := hide hh6; have HBD6 := hide bd6
      obtain ⟨X2, hX2⟩ : ∃ z, z = x.day := ⟨_, rfl⟩
      obtain ⟨X5, hX5⟩ : ∃ z, z = x.acc := ⟨_, rfl⟩
      have HX2 := hide hX2; have HX5 := hide hX5
      rw [← hX2] at d4 hw6' hld
      rw [← hX5] at d5 hw6' hld
      clear hkR hlt hK hx hxm hw6 b6 hbo hb hh6 bd6 HA hxo hX2 hX5
      have HNO : Hid (pas fr tt nm x = false → ∀ W, Below w6.heap.size w6 W → AmAt w (amsL L fr tt ty nm cr (R.take (k + 1))) (.slice p m c) W) := fun hp W hb => by
        rw [unhide HTK, amsL_app, amsL, hp]
        simp only [Bool.false_eq_true, if_false, amsL, List.append_nil]
        exact (unhide HA6).below hb
      by_cases g1 : X2 < fr
      · have HNEW : Hid (∀ W, Below w6.heap.size w6 W → AmAt w (amsL L fr tt ty nm cr (R.take (k + 1))) (.slice p m c) W) := unhide HNO (by unfold pas cnt; rw [← unhide HX2, decide_eq_false (by omega)]; rfl)
        go_wp2_with fail
        go_quiet (fail)
        go_wp2_with fail
        exact ⟨⟨k + 1, K + 1, by omega, by go_num, by have := unhide HK; omega, ⟨_, _, _, rfl⟩, unhide HNEW _ (below_drewN (Below.refl _ _) _)⟩, by have := unhide HK; simp [intOf]; omega⟩
      · have g1b : decide (X2 < fr) = false := decide_eq_false g1
        by_cases g2 : tt < X2
        · have HNEW : Hid (∀ W, Below w6.heap.size w6 W → AmAt w (amsL L fr tt ty nm cr (R.take (k + 1))) (.slice p m c) W) := unhide HNO (by unfold pas cnt; rw [← unhide HX2, decide_eq_false (show ¬ X2 ≤ tt by omega)]; simp)
          go_wp2_with fail
          go_quiet (fail)
          go_wp2_with fail
          exact ⟨⟨k + 1, K + 1, by omega, by go_num, by have := unhide HK; omega, ⟨_, _, _, rfl⟩, unhide HNEW _ (below_drewN (Below.refl _ _) _)⟩, by have := unhide HK; simp [intOf]; omega⟩
        · have g2b : decide (tt < X2) = false := decide_eq_false g2
          by_cases g3 : nm ≠ ⟨#[]⟩ ∧ X5 ≠ nm
          · have HNEW : Hid (∀ W, Below w6.heap.size w6 W → AmAt w (amsL L fr tt ty nm cr (R.take (k + 1))) (.slice p m c) W) := unhide HNO (by unfold pas; rw [← unhide HX5, decide_eq_false g3.1, decide_eq_false g3.2]; simp)
            have g3a : (nm.toList == (⟨#[]⟩ : ByteArray).toList) = false := ba_ne g3.1
            have g3c : (nm.toList == []) = false := by have := ba_ne g3.1; rwa [nil_toL] at this
            have g3b : (X5.toList == nm.toList) = false := ba_ne g3.2
            clear g3
            go_wp2_with fail
            go_quiet (fail)
            go_wp2_with fail
            exact ⟨⟨k + 1, K + 1, by omega, by go_num, by have := unhide HK; omega, ⟨_, _, _, rfl⟩, unhide HNEW _ (below_drewN (Below.refl _ _) _)⟩, by have := unhide HK; simp [intOf]; omega⟩
          · have HYES : Hid (∀ W lv, AmAt w (amsL L fr tt ty nm cr (R.take k) ++ rowA ty cr x L) lv W → AmAt w (amsL L fr tt ty nm cr (R.take (k + 1))) lv W) := fun W lv h => by
              have hp : pas fr tt nm x = true := by
                unfold pas cnt
                rw [← unhide HX2, ← unhide HX5, decide_eq_true (show fr ≤ X2 by omega), decide_eq_true (show X2 ≤ tt by omega)]
                by_cases q : nm = ⟨#[]⟩
                · rw [decide_eq_true q]; rfl
                · have q2 : X5 = nm := Classical.byContradiction fun h => g3 ⟨q, h⟩
                  rw [decide_eq_true q2]; simp
              have e : amsL L fr tt ty nm cr (R.take (k + 1)) = amsL L fr tt ty nm cr (R.take k) ++ rowA ty cr x L := by
                rw [unhide HTK, amsL_app, amsL, hp, if_pos rfl, amsL, List.append_nil]
              rw [e]
              exact h
            obtain ⟨q, hq⟩ : ∃ q : Bool, (nm.toList == (⟨#[]⟩ : ByteArray).toList) = q := ⟨_, rfl⟩
            have hq2 : (nm.toList == []) = q := by have := hq; rwa [nil_toL] at this
            have hq3 : q = false → (X5.toList == nm.toList) = true := fun h => by
              have h1 : ¬ nm = ⟨#[]⟩ := fun e => by rw [e, toL_eq rfl] at hq; rw [← hq] at h; cases h
              rw [Classical.byContradiction fun h => g3 ⟨h1, h⟩]
              simp
            clear g3
            have HG : Hid True := trivial
            cases q with
            | true =>
              go_upto_region 6 with fail
              go_quiet (fail)
              have bq : Below w6.heap.size w6 (w6.drewN nq) := below_drewN (Below.refl _ _) _
              obtain ⟨wq, hwq⟩ : ∃ W, W = w6.drewN nq := ⟨_, rfl⟩
              rw [← hwq] at bq ⊢
              have HI0 : Hid (AmAt w (amsL L fr tt ty nm cr (R.take k) ++ rowA ty cr x (L.take 0)) (.slice p m c) wq ∧ wq.heap[wo.heap.size]? = some (obU x)) := by
                refine ⟨?_, (bq.block _ (Array.getElem?_eq_some_iff.1 (unhide HH6)).1).trans (unhide HH6)⟩
                rw [List.take_zero, rowA, List.append_nil]
                exact (unhide HA6).below bq
              clear hwq bq hq hq2 hq3 HNO HHS c0 c1 c2 c3 d2 d3 d4 d5 hld hw6' g1 g2 g1b g2b HG
              go_wp2_with fail
              go_loopw [9, 12] (fun lv jv W => ∃ (j : Nat) (J : Int), j ≤ na ∧ jv = .int .i64 J ∧ J = (j : Int) ∧ (∃ p m c, lv = .slice p m c) ∧ Hid (AmAt w (amsL L fr tt ty nm cr (R.take k) ++ rowA ty cr x (L.take j)) lv W ∧ W.heap[wo.heap.size]? = some (obU x))) (fun _ jv _ => ((na : Int) - intOf jv).toNat)
              case atStart => exact ⟨0, 0, by omega, rfl, rfl, ⟨_, _, _, rfl⟩, unhide HI0⟩
              case round =>
                obtain ⟨wi, rfl⟩ : ∃ x, x = wr := ⟨wr, rfl⟩
                obtain ⟨j, J, hj, rfl, hJ, ⟨p, m, c, rfl⟩, HB⟩ := hrel
                have hbi : Below w.heap.size w wi := (unhide HB).1.bel
                obtain ⟨c0, -, -, -⟩ := unhide HCB wi hbi
                by_cases hlt : j < na
                · have hI2 : J < (na : Int) := by omega
                  have hJ0 : 0 ≤ J := by omega
                  have hJt : J.toNat = j := by omega
                  have hjL : j < L.length := by have := unhide HL; omega
                  obtain ⟨b2, o2, ep2, e0, e1⟩ := lies_cA ((unhide HLL).below hbi) hjL
                  obtain ⟨a, ha⟩ : ∃ a, a = L[j] := ⟨_, rfl⟩
                  rw [← ha] at e0 e1
                  have HTJ : Hid (L.take (j + 1) = L.take j ++ [a]) := by show _ = _; rw [List.take_succ_eq_append_getElem hjL, ← ha]
                  obtain ⟨d2, d5, d6⟩ := unhide HCX wi (unhide HB).2
                  rw [← unhide HX5] at d5
                  obtain ⟨N, hN⟩ : ∃ z, z = Ch.txN a.nm := ⟨_, rfl⟩
                  obtain ⟨T, hT⟩ : ∃ z, z = a.ty := ⟨_, rfl⟩
                  rw [← hN] at e0
                  rw [← hT] at e1
                  have HLEN : Hid ((amsL L fr tt ty nm cr (R.take k) ++ rowA ty cr x (L.take j)).length + 1 ≤ 1099511627776) := by
                    have h1 := amsL_len (L := L) (by have := unhide HL; omega) fr tt ty nm cr (R.take k)
                    have h2 := rowA_len ty cr x (L.take j)
                    rw [List.length_take] at h1 h2
                    have h3 := unhide HNR
                    have h4 := unhide HNA
                    show _ ≤ _
                    rw [List.length_append]
                    omega
                  have HSAME : Hid (¬ (N = X5 ∧ T = ty) → rowA ty cr x (L.take (j + 1)) = rowA ty cr x (L.take j)) := fun h => by
                    rw [unhide HTJ, rowA_app, rowA, if_neg (by rw [← hN, ← hT, ← unhide HX5]; exact h), rowA, List.append_nil]
                  have HMORE : Hid (N = X5 ∧ T = ty → rowA ty cr x (L.take (j + 1)) = rowA ty cr x (L.take j) ++ [sg cr x.amt]) := fun h => by
                    rw [unhide HTJ, rowA_app, rowA, if_pos (by rw [← hN, ← hT, ← unhide HX5]; exact h), rowA]
                  have HJ := hide hJ; have HBI := hide hbi
                  subst ep2
                  clear hjL ha hN hT hlt hJ hbi
                  by_cases q1 : N = X5
                  · have q1b : (N.toList == X5.toList) = true := toL_eq q1
                    by_cases q2 : T = ty
                    · have q2b : (T == ty) = true := by rw [beq_iff_eq]; exact q2
                      have HM2 := hide (unhide HMORE ⟨q1, q2⟩)
                      clear q1 q2
                      go_wp2_with fail
                      go_quiet (fail)
                      have bw : Below wi.heap.size wi (wi.drewN nq) := below_drewN (Below.refl _ _) _
                      obtain ⟨wv, hwv⟩ : ∃ W, W = wi.drewN nq := ⟨_, rfl⟩
                      rw [← hwv] at bw ⊢
                      have hAv := (unhide HB).1.below bw
                      have hhv : wv.heap[wo.heap.size]? = some (obU x) := (bw.block _ (Array.getElem?_eq_some_iff.1 (unhide HB).2).1).trans (unhide HB).2
                      obtain ⟨p', c', w7, r7, o7, b7, k7, -⟩ := amt_app hAv.own hAv.bel.size (sg cr x.amt) (unhide HLEN)
                      have HNEW : Hid (AmAt w (amsL L fr tt ty nm cr (R.take k) ++ rowA ty cr x (L.take (j + 1))) (.slice p' ((amsL L fr tt ty nm cr (R.take k) ++ rowA ty cr x (L.take j)).length + 1) c') w7 ∧ w7.heap[wo.heap.size]? = some (obU x)) := by
                        refine ⟨⟨?_, hAv.bel.trans b7⟩, (k7 _ (Array.getElem?_eq_some_iff.1 hhv).1 (not_own hAv.own hhv (by decide))).trans hhv⟩
                        have e8 : amsL L fr tt ty nm cr (R.take k) ++ rowA ty cr x (L.take (j + 1)) = (amsL L fr tt ty nm cr (R.take k) ++ rowA ty cr x (L.take j)) ++ [sg cr x.amt] := by rw [unhide HM2, List.append_assoc]
                        have e9 : ((amsL L fr tt ty nm cr (R.take k) ++ rowA ty cr x (L.take j)) ++ [sg cr x.amt]).length = (amsL L fr tt ty nm cr (R.take k) ++ rowA ty cr x (L.take j)).length + 1 := by simp only [List.length_append, List.length_singleton]
                        rw [e8, e9]
                        exact o7
                      obtain ⟨M, hM⟩ : ∃ M, M = (amsL L fr tt ty nm cr (R.take k) ++ rowA ty cr x (L.take j)).length := ⟨_, rfl⟩
                      rw [← hM] at r7 HNEW
                      obtain ⟨-, -, d6⟩ := unhide HCX wv hhv
                      have hxa := unhide HXO
                      have hx1 := hxa.1; have hx2 := hxa.2
                      clear hwv bw hAv hhv o7 b7 k7 hxa hM
                      clear d2 d5 e0 e1 q1b q2b
                      cases cr with
                      | true =>
                        have HR7 := hide r7
                        have es : sg true x.amt = -x.amt := rfl
                        rw [es] at HR7
                        clear r7 es
                        go_wp2_with (at_builtin; refine wpList_append_run rfl _ _ 92 rfl _ _ _ _ rfl rfl (unhide HR7) ?_)
                        exact ⟨⟨j + 1, J + 1, by omega, by go_num, by have := unhide HJ; omega, ⟨_, _, _, rfl⟩, unhide HNEW⟩, by have := unhide HJ; simp [intOf]; omega⟩
                      | false =>
                        have HR7 := hide r7
                        have es : sg false x.amt = x.amt := rfl
                        rw [es] at HR7
                        clear r7 es
                        go_wp2_with (at_builtin; refine wpList_append_run rfl _ _ 92 rfl _ _ _ _ rfl rfl (unhide HR7) ?_)
                        exact ⟨⟨j + 1, J + 1, by omega, by go_num, by have := unhide HJ; omega, ⟨_, _, _, rfl⟩, unhide HNEW⟩, by have := unhide HJ; simp [intOf]; omega⟩
                    · have q2b : (T == ty) = false := beq_eq_false_iff_ne.2 q2
                      have hS := hide (unhide HSAME (fun h => q2 h.2))
                      have HNEW : Hid (∀ W, Below wi.heap.size wi W → AmAt w (amsL L fr tt ty nm cr (R.take k) ++ rowA ty cr x (L.take (j + 1))) (.slice p m c) W ∧ W.heap[wo.heap.size]? = some (obU x)) := fun W hb => by
                        rw [unhide hS]
                        exact ⟨(unhide HB).1.below hb, (hb.block _ (Array.getElem?_eq_some_iff.1 (unhide HB).2).1).trans (unhide HB).2⟩
                      clear q1 q2
                      go_wp2_with fail
                      go_quiet (fail)
                      go_wp2_with fail
                      exact ⟨⟨j + 1, J + 1, by omega, by go_num, by have := unhide HJ; omega, ⟨_, _, _, rfl⟩, unhide HNEW _ (below_drewN (Below.refl _ _) _)⟩, by have := unhide HJ; simp [intOf]; omega⟩
                  · have q1b : (N.toList == X5.toList) = false := ba_ne q1
                    have hS := hide (unhide HSAME (fun h => q1 h.1))
                    have HNEW : Hid (∀ W, Below wi.heap.size wi W → AmAt w (amsL L fr tt ty nm cr (R.take k) ++ rowA ty cr x (L.take (j + 1))) (.slice p m c) W ∧ W.heap[wo.heap.size]? = some (obU x)) := fun W hb => by
                      rw [unhide hS]
                      exact ⟨(unhide HB).1.below hb, (hb.block _ (Array.getElem?_eq_some_iff.1 (unhide HB).2).1).trans (unhide HB).2⟩
                    clear q1
                    go_wp2_with fail
                    go_quiet (fail)
                    go_wp2_with fail
                    exact ⟨⟨j + 1, J + 1, by omega, by go_num, by have := unhide HJ; omega, ⟨_, _, _, rfl⟩, unhide HNEW _ (below_drewN (Below.refl _ _) _)⟩, by have := unhide HJ; simp [intOf]; omega⟩
                · have hI2 : ¬ J < (na : Int) := by omega
                  have hjn : j = na := by omega
                  subst hjn
                  have HNEW : Hid (AmAt w (amsL L fr tt ty nm cr (R.take (k + 1))) (.slice p m c) wi) := by
                    have h := (unhide HB).1
                    have eL : L.take j = L := List.take_of_length_le (by have := unhide HL; omega)
                    rw [eL] at h
                    exact unhide HYES _ _ h
                  clear HB hJ hbi
                  go_wp2_with fail
                  exact ⟨⟨k + 1, K + 1, by omega, by go_num, by have := unhide HK; omega, ⟨_, _, _, rfl⟩, unhide HNEW⟩, by have := unhide HK; simp [intOf]; omega⟩
            | false =>
              have hq4 := hq3 rfl
              go_upto_region 6 with fail
              go_quiet (fail)
              have bq : Below w6.heap.size w6 (w6.drewN nq) := below_drewN (Below.refl _ _) _
              obtain ⟨wq, hwq⟩ : ∃ W, W = w6.drewN nq := ⟨_, rfl⟩
              rw [← hwq] at bq ⊢
              have HI0 : Hid (AmAt w (amsL L fr tt ty nm cr (R.take k) ++ rowA ty cr x (L.take 0)) (.slice p m c) wq ∧ wq.heap[wo.heap.size]? = some (obU x)) := by
                refine ⟨?_, (bq.block _ (Array.getElem?_eq_some_iff.1 (unhide HH6)).1).trans (unhide HH6)⟩
                rw [List.take_zero, rowA, List.append_nil]
                exact (unhide HA6).below bq
              clear hwq bq hq hq4 hq2 hq3 HNO HHS c0 c1 c2 c3 d2 d3 d4 d5 hld hw6' g1 g2 g1b g2b HG
              go_wp2_with fail
              go_loopw [9, 12] (fun lv jv W => ∃ (j : Nat) (J : Int), j ≤ na ∧ jv = .int .i64 J ∧ J = (j : Int) ∧ (∃ p m c, lv = .slice p m c) ∧ Hid (AmAt w (amsL L fr tt ty nm cr (R.take k) ++ rowA ty cr x (L.take j)) lv W ∧ W.heap[wo.heap.size]? = some (obU x))) (fun _ jv _ => ((na : Int) - intOf jv).toNat)
              case atStart => exact ⟨0, 0, by omega, rfl, rfl, ⟨_, _, _, rfl⟩, unhide HI0⟩
              case round =>
                obtain ⟨wi, rfl⟩ : ∃ x, x = wr := ⟨wr, rfl⟩
                obtain ⟨j, J, hj, rfl, hJ, ⟨p, m, c, rfl⟩, HB⟩ := hrel
                have hbi : Below w.heap.size w wi := (unhide HB).1.bel
                obtain ⟨c0, -, -, -⟩ := unhide HCB wi hbi
                by_cases hlt : j < na
                · have hI2 : J < (na : Int) := by omega
                  have hJ0 : 0 ≤ J := by omega
                  have hJt : J.toNat = j := by omega
                  have hjL : j < L.length := by have := unhide HL; omega
                  obtain ⟨b2, o2, ep2, e0, e1⟩ := lies_cA ((unhide HLL).below hbi) hjL
                  obtain ⟨a, ha⟩ : ∃ a, a = L[j] := ⟨_, rfl⟩
                  rw [← ha] at e0 e1
                  have HTJ : Hid (L.take (j + 1) = L.take j ++ [a]) := by show _ = _; rw [List.take_succ_eq_append_getElem hjL, ← ha]
                  obtain ⟨d2, d5, d6⟩ := unhide HCX wi (unhide HB).2
                  rw [← unhide HX5] at d5
                  obtain ⟨N, hN⟩ : ∃ z, z = Ch.txN a.nm := ⟨_, rfl⟩
                  obtain ⟨T, hT⟩ : ∃ z, z = a.ty := ⟨_, rfl⟩
                  rw [← hN] at e0
                  rw [← hT] at e1
                  have HLEN : Hid ((amsL L fr tt ty nm cr (R.take k) ++ rowA ty cr x (L.take j)).length + 1 ≤ 1099511627776) := by
                    have h1 := amsL_len (L := L) (by have := unhide HL; omega) fr tt ty nm cr (R.take k)
                    have h2 := rowA_len ty cr x (L.take j)
                    rw [List.length_take] at h1 h2
                    have h3 := unhide HNR
                    have h4 := unhide HNA
                    show _ ≤ _
                    rw [List.length_append]
                    omega
                  have HSAME : Hid (¬ (N = X5 ∧ T = ty) → rowA ty cr x (L.take (j + 1)) = rowA ty cr x (L.take j)) := fun h => by
                    rw [unhide HTJ, rowA_app, rowA, if_neg (by rw [← hN, ← hT, ← unhide HX5]; exact h), rowA, List.append_nil]
                  have HMORE : Hid (N = X5 ∧ T = ty → rowA ty cr x (L.take (j + 1)) = rowA ty cr x (L.take j) ++ [sg cr x.amt]) := fun h => by
                    rw [unhide HTJ, rowA_app, rowA, if_pos (by rw [← hN, ← hT, ← unhide HX5]; exact h), rowA]
                  have HJ := hide hJ; have HBI := hide hbi
                  subst ep2
                  clear hjL ha hN hT hlt hJ hbi
                  by_cases q1 : N = X5
                  · have q1b : (N.toList == X5.toList) = true := toL_eq q1
                    by_cases q2 : T = ty
                    · have q2b : (T == ty) = true := by rw [beq_iff_eq]; exact q2
                      have HM2 := hide (unhide HMORE ⟨q1, q2⟩)
                      clear q1 q2
                      go_wp2_with fail
                      go_quiet (fail)
                      have bw : Below wi.heap.size wi (wi.drewN nq) := below_drewN (Below.refl _ _) _
                      obtain ⟨wv, hwv⟩ : ∃ W, W = wi.drewN nq := ⟨_, rfl⟩
                      rw [← hwv] at bw ⊢
                      have hAv := (unhide HB).1.below bw
                      have hhv : wv.heap[wo.heap.size]? = some (obU x) := (bw.block _ (Array.getElem?_eq_some_iff.1 (unhide HB).2).1).trans (unhide HB).2
                      obtain ⟨p', c', w7, r7, o7, b7, k7, -⟩ := amt_app hAv.own hAv.bel.size (sg cr x.amt) (unhide HLEN)
                      have HNEW : Hid (AmAt w (amsL L fr tt ty nm cr (R.take k) ++ rowA ty cr x (L.take (j + 1))) (.slice p' ((amsL L fr tt ty nm cr (R.take k) ++ rowA ty cr x (L.take j)).length + 1) c') w7 ∧ w7.heap[wo.heap.size]? = some (obU x)) := by
                        refine ⟨⟨?_, hAv.bel.trans b7⟩, (k7 _ (Array.getElem?_eq_some_iff.1 hhv).1 (not_own hAv.own hhv (by decide))).trans hhv⟩
                        have e8 : amsL L fr tt ty nm cr (R.take k) ++ rowA ty cr x (L.take (j + 1)) = (amsL L fr tt ty nm cr (R.take k) ++ rowA ty cr x (L.take j)) ++ [sg cr x.amt] := by rw [unhide HM2, List.append_assoc]
                        have e9 : ((amsL L fr tt ty nm cr (R.take k) ++ rowA ty cr x (L.take j)) ++ [sg cr x.amt]).length = (amsL L fr tt ty nm cr (R.take k) ++ rowA ty cr x (L.take j)).length + 1 := by simp only [List.length_append, List.length_singleton]
                        rw [e8, e9]
                        exact o7
                      obtain ⟨M, hM⟩ : ∃ M, M = (amsL L fr tt ty nm cr (R.take k) ++ rowA ty cr x (L.take j)).length := ⟨_, rfl⟩
                      rw [← hM] at r7 HNEW
                      obtain ⟨-, -, d6⟩ := unhide HCX wv hhv
                      have hxa := unhide HXO
                      have hx1 := hxa.1; have hx2 := hxa.2
                      clear hwv bw hAv hhv o7 b7 k7 hxa hM
                      clear d2 d5 e0 e1 q1b q2b
                      cases cr with
                      | true =>
                        have HR7 := hide r7
                        have es : sg true x.amt = -x.amt := rfl
                        rw [es] at HR7
                        clear r7 es
                        go_wp2_with (at_builtin; refine wpList_append_run rfl _ _ 92 rfl _ _ _ _ rfl rfl (unhide HR7) ?_)
                        exact ⟨⟨j + 1, J + 1, by omega, by go_num, by have := unhide HJ; omega, ⟨_, _, _, rfl⟩, unhide HNEW⟩, by have := unhide HJ; simp [intOf]; omega⟩
                      | false =>
                        have HR7 := hide r7
                        have es : sg false x.amt = x.amt := rfl
                        rw [es] at HR7
                        clear r7 es
                        go_wp2_with (at_builtin; refine wpList_append_run rfl _ _ 92 rfl _ _ _ _ rfl rfl (unhide HR7) ?_)
                        exact ⟨⟨j + 1, J + 1, by omega, by go_num, by have := unhide HJ; omega, ⟨_, _, _, rfl⟩, unhide HNEW⟩, by have := unhide HJ; simp [intOf]; omega⟩
                    · have q2b : (T == ty) = false := beq_eq_false_iff_ne.2 q2
                      have hS := hide (unhide HSAME (fun h => q2 h.2))
                      have HNEW : Hid (∀ W, Below wi.heap.size wi W → AmAt w (amsL L fr tt ty nm cr (R.take k) ++ rowA ty cr x (L.take (j + 1))) (.slice p m c) W ∧ W.heap[wo.heap.size]? = some (obU x)) := fun W hb => by
                        rw [unhide hS]
                        exact ⟨(unhide HB).1.below hb, (hb.block _ (Array.getElem?_eq_some_iff.1 (unhide HB).2).1).trans (unhide HB).2⟩
                      clear q1 q2
                      go_wp2_with fail
                      go_quiet (fail)
                      go_wp2_with fail
                      exact ⟨⟨j + 1, J + 1, by omega, by go_num, by have := unhide HJ; omega, ⟨_, _, _, rfl⟩, unhide HNEW _ (below_drewN (Below.refl _ _) _)⟩, by have := unhide HJ; simp [intOf]; omega⟩
                  · have q1b : (N.toList == X5.toList) = false := ba_ne q1
                    have hS := hide (unhide HSAME (fun h => q1 h.1))
                    have HNEW : Hid (∀ W, Below wi.heap.size wi W → AmAt w (amsL L fr tt ty nm cr (R.take k) ++ rowA ty cr x (L.take (j + 1))) (.slice p m c) W ∧ W.heap[wo.heap.size]? = some (obU x)) := fun W hb => by
                      rw [unhide hS]
                      exact ⟨(unhide HB).1.below hb, (hb.block _ (Array.getElem?_eq_some_iff.1 (unhide HB).2).1).trans (unhide HB).2⟩
                    clear q1
                    go_wp2_with fail
                    go_quiet (fail)
                    go_wp2_with fail
                    exact ⟨⟨j + 1, J + 1, by omega, by go_num, by have := unhide HJ; omega, ⟨_, _, _, rfl⟩, unhide HNEW _ (below_drewN (Below.refl _ _) _)⟩, by have := unhide HJ; simp [intOf]; omega⟩
                · have hI2 : ¬ J < (na : Int) := by omega
                  have hjn : j = na := by omega
                  subst hjn
                  have HNEW : Hid (AmAt w (amsL L fr tt ty nm cr (R.take (k + 1))) (.slice p m c) wi) := by
                    have h := (unhide HB).1
                    have eL : L.take j = L := List.take_of_length_le (by have := unhide HL; omega)
                    rw [eL] at h
                    exact unhide HYES _ _ h
                  clear HB hJ hbi
                  go_wp2_with fail
                  exact ⟨⟨k + 1, K + 1, by omega, by go_num, by have := unhide HK; omega, ⟨_, _, _, rfl⟩, unhide HNEW⟩, by have := unhide HK; simp [intOf]; omega⟩
    · have hI : ¬ K < (nr : Int) := by omega
      have hkn : k = nr := by omega
      subst hkn
      have HFIN : Hid (AmOut w (amsL L fr tt ty nm cr R) (.returned (.slice p m c)) wo) := by
        have h := unhide HA
        rw [List.take_of_length_le (by have := unhide HR; omega)] at h
        obtain ⟨p', c', e, _, _⟩ := row_slice h.own
        cases e
        exact ⟨p, c, rfl, h⟩
      clear HA hK hbo
      go_wp2_with fail
      go_ret
      exact unhide HFIN
end Go.Proofs.YtcafhmlpmbkhkaaGreatDoor
