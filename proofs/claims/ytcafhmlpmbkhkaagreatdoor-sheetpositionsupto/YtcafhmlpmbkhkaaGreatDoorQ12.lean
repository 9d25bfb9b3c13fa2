import Derived.Test.YtcafhmlpmbkhkaaGreatDoorQ09
import Derived.Test.YtcafhmlpmbkhkaaGreatDoorQ11
namespace Go.Proofs.YtcafhmlpmbkhkaaGreatDoor
open Go Go.Shelf Go.ChangeShapes Go.WideShapes Go.ChangeAt Go.RowKit Go.Maps
set_option linter.unusedVariables false
set_option linter.unusedSimpArgs false
def gPA (L : List Ch.Ac) (R : List Po) (day : Int) : Ch.Ac → List Int := fun a => amsL L 1 day 1 (Ch.txN a.nm) false R
def gPD (L : List Ch.Ac) (R : List Po) (day : Int) : Ch.Ac → List Int := fun a => amsL L 1 day 2 (Ch.txN a.nm) true R
def gPE (L : List Ch.Ac) (R : List Po) (day : Int) : Ch.Ac → List Int := fun a => amsL L 1 day 3 (Ch.txN a.nm) true R
def lPA (L : List Ch.Ac) (R : List Po) (day : Int) : List Int := amsL L 1 day 1 ⟨#[]⟩ false R
def lPD (L : List Ch.Ac) (R : List Po) (day : Int) : List Int := amsL L 1 day 2 ⟨#[]⟩ true R
def lPE (L : List Ch.Ac) (R : List Po) (day : Int) : List Int := amsL L 1 day 3 ⟨#[]⟩ true R
def lP4 (L : List Ch.Ac) (R : List Po) (day : Int) : List Int := amsL L 1 day 4 ⟨#[]⟩ true R
def lP5 (L : List Ch.Ac) (R : List Po) (day : Int) : List Int := amsL L 1 day 5 ⟨#[]⟩ true R
def lPR (L : List Ch.Ac) (R : List Po) (day : Int) : List Int := lP4 L R day ++ lP5 L R day
def lPO (L : List Ch.Ac) (R : List Po) (day : Int) : List Int := lPE L R day ++ lPR L R day
def lPT (L : List Ch.Ac) (R : List Po) (day : Int) : List Int := lPD L R day ++ lPO L R day
def ovP (L : List Ch.Ac) (R : List Po) (day : Int) : Bool := ovr (ovr (ovr (rbO (gPE L R day) 3 (ovr (rbO (gPD L R day) 2 (ovr (rbO (gPA L R day) 1 false L) (lPA L R day)) L) (lPD L R day)) L) (lPR L R day)) (lPO L R day)) (lPT L R day)
def lineT1 (t : ByteArray) (l : List Int) (d : Nat) : List Tx := [t.data.toList, txt (sumL l).1 d]
def tiS : ByteArray := txB [83, 117, 109]
def rowsP (d : Nat) (L : List Ch.Ac) (R : List Po) (day : Int) : List (List Tx) :=
  (((((([[tiA.data.toList]] ++ rbR (gPA L R day) 1 d L) ++ [lineT1 tiS (lPA L R day) d]) ++ ([[tiD.data.toList]] ++ rbR (gPD L R day) 2 d L)) ++ [lineT1 tiS (lPD L R day) d]) ++ ([[tiE.data.toList]] ++ rbR (gPE L R day) 3 d L)) ++ [lineT1 tiR (lPR L R day) d]) ++ [lineT1 tiS (lPO L R day) d] ++ [lineT1 tiT (lPT L R day) d]
noncomputable def hdP (day : Int) : Tx := [65, 116, 32] ++ dtx day
noncomputable def ansQ (dg : Int) (L : List Ch.Ac) (R : List Po) (day : Int) : Tx × Int := if rngE dg L R day day = 0 then shtA (ovP L R day) (hdP day) (rowsP dg.toNat L R day) else ([], rngE dg L R day day)
theorem rowsP_all {d : Nat} {L : List Ch.Ac} {R : List Po} {day : Int} {P : List Tx → Prop} (ht : ∀ t : ByteArray, t.size ≤ 200 → P [t.data.toList]) (hl : ∀ (t : ByteArray) (l : List Int), t.size ≤ 200 → P (lineT1 t l d)) (hr : ∀ (G : Ch.Ac → List Int) (ty : Int), ∀ r ∈ rbR G ty d L, P r) : ∀ r ∈ rowsP d L R day, P r := by
  have sz : ∀ T : Tx, T.length ≤ 200 → (txB T).size ≤ 200 := fun T h => by rw [txB_len]; exact h
  intro r h
  unfold rowsP at h
  simp only [List.mem_append, List.mem_singleton] at h
  rcases h with (((((((rfl | h) | rfl) | (rfl | h)) | rfl) | (rfl | h)) | rfl) | rfl) | rfl
  · exact ht _ (sz _ (by decide))
  · exact hr _ _ r h
  · exact hl _ _ (sz _ (by decide))
  · exact ht _ (sz _ (by decide))
  · exact hr _ _ r h
  · exact hl _ _ (sz _ (by decide))
  · exact ht _ (sz _ (by decide))
  · exact hr _ _ r h
  · exact hl _ _ (sz _ (by decide))
  · exact hl _ _ (sz _ (by decide))
  · exact hl _ _ (sz _ (by decide))
theorem rowsP_two (d : Nat) (L : List Ch.Ac) (R : List Po) (day : Int) : ∀ r ∈ rowsP d L R day, r.length ≤ 2 :=
  rowsP_all (fun t _ => by show 1 ≤ 2; omega) (fun t l _ => Nat.le_refl _) (fun G ty => rbR_two G ty d L)
theorem rowsP_cell {d : Nat} (hd : d ≤ 6) {L : List Ch.Ac} (h : ∀ a ∈ L, (Ch.txN a.nm).size ≤ 101) (R : List Po) (day : Int) : ∀ r ∈ rowsP d L R day, ∀ x ∈ r, x.length ≤ 200 :=
  rowsP_all (fun t ht x hx => by rw [List.mem_singleton] at hx; subst hx; rw [tx_size]; exact ht) (fun t l ht x hx => by
    unfold lineT1 at hx
    simp only [List.mem_cons, List.not_mem_nil, or_false] at hx
    rcases hx with rfl | rfl
    · rw [tx_size]; exact ht
    · have := txt_len (sumL l).1 d hd; omega) (fun G ty => rbR_cell G ty hd L h)
end Go.Proofs.YtcafhmlpmbkhkaaGreatDoor
namespace Go.Proofs.YtcafhmlpmbkhkaaGreatDoor
open Go Go.Shelf Go.ChangeShapes Go.WideShapes Go.ChangeAt Go.RowKit Go.Maps
set_option linter.unusedVariables false
set_option linter.unusedSimpArgs false
section
variable {w4 : World} {pa : Option Addr} {na ca : Nat} {pr : Option Addr} {nr crr : Nat} {fr tt : Int} {kb : Nat} {ov ov' : Bool} {rows : List (List Tx)} {W W' : World} {p : Option Addr} {n c : Nat}
theorem RiAt.line (h : RiAt w4 pa na ca pr nr crr fr tt kb ov rows (.slice p n c) W) (hkb : kb < w4.heap.size) (hn : rows.length = n) (hb : n ≤ 10000) {g : Nat} {r : List Tx} (hr : RowIs W' ⟨some ⟨g, 0, none⟩, 2, 2⟩ r) (hk : bkK pa na ca pr nr crr fr tt kb ov' W') (hg : W.grownBy W' (some kb)) :
    ∃ n2 p2 c2 w2, n2 = n + 1 ∧ (Builtin.append_ #[94, 94] 94 #[.slice p n c, .slice (some ⟨W'.heap.size, 0, none⟩) 1 1]).run Tryz.prog (W'.alloc (.cells #[.slice (some ⟨g, 0, none⟩) 2 2] 93)) = .ok (.slice p2 n2 c2) w2 ∧ RiAt w4 pa na ca pr nr crr fr tt kb ov' (rows ++ [r]) (.slice p2 n2 c2) w2 ∧ (rows ++ [r]).length = n2 := by
  obtain ⟨p2, c2, w2, h1, h2⟩ := (h.next hk hg).app hkb hr (by omega)
  rw [hn] at h1 h2
  exact ⟨n + 1, p2, c2, w2, rfl, h1, h2, by simp [hn]⟩
theorem RiAt.blk (h : RiAt w4 pa na ca pr nr crr fr tt kb ov rows (.slice p n c) W) (hkb : kb < w4.heap.size) (hn : rows.length = n) (hb : n ≤ 10000) {title : ByteArray} {G : Ch.Ac → List Int} {ty : Int} {d : Nat} {A : List Ch.Ac} (hA : A.length ≤ 100) {p8 : Option Addr} {c8 : Nat} (hR : RbAt W pa na ca pr nr crr fr tt kb ov title G ty d A (.slice p8 ((rbR G ty d A).length + 1) c8) W') :
    ∃ m n2 p2 c2 w2, m = (rbR G ty d A).length + 1 ∧ n2 ≤ n + 101 ∧ (Builtin.append_ #[94, 94] 94 #[.slice p n c, .slice p8 m c8]).run Tryz.prog W' = .ok (.slice p2 n2 c2) w2 ∧ RiAt w4 pa na ca pr nr crr fr tt kb (rbO G ty ov A) (rows ++ ([[title.data.toList]] ++ rbR G ty d A)) (.slice p2 n2 c2) w2 ∧ (rows ++ ([[title.data.toList]] ++ rbR G ty d A)).length = n2 := by
  have hl := rbR_len G ty d A
  have ln : ([[title.data.toList]] ++ rbR G ty d A).length = (rbR G ty d A).length + 1 := by simp only [List.length_append, List.length_singleton]; omega
  obtain ⟨p2, c2, w2, h1, h2⟩ := (h.next hR.bk hR.grw).all hkb hR.rl ln (by rw [ln]; omega)
  rw [hn] at h1 h2
  exact ⟨_, n + ((rbR G ty d A).length + 1), p2, c2, w2, rfl, by omega, h1, h2, by rw [List.length_append, ln, hn]⟩
end
theorem ams_small {L : List Ch.Ac} (hL : L.length ≤ 100) {R : List Po} (hR : R.length ≤ 1048576) (fr tt ty : Int) (nm : ByteArray) (cr : Bool) : (amsL L fr tt ty nm cr R).length ≤ 104857600 := by
  have := amsL_len hL fr tt ty nm cr R
  omega
set_option maxRecDepth 100000 in
set_option maxHeartbeats 16000000 in
theorem rposition_any {w : World} {pa : Option Addr} {na ca : Nat} {L : List Ch.Ac} (hL : L.length = na) (hLL : Lies Ch.kA w pa L) (hpc : pa = none → ca = 0) (hna : na ≤ 1048576) (hsz : ∀ a ∈ L, (Ch.txN a.nm).size ≤ 1048576) (hty : ∀ a ∈ L, fits64 a.ty) {pr : Option Addr} {nr crr : Nat} {R : List Po} (hR : R.length = nr) (hLR : Lies kU w pr R) (hok : ∀ r ∈ R, PoOk r) (hnr : nr ≤ 1048576) (day : Int) (hday : fits64 day) (dg : Int) (hdg : fits64 dg) :
    Calls Tryz.prog 31 #[.slice pa na ca, .slice pr nr crr, .int .i64 day, .int .i64 dg] w (TriOut w (ansQ dg L R day)) := by
  have D0 := range_any (ca := ca) (cr := crr) hL hLL hpc hna hsz hR hLR hok hnr day day hday hday dg hdg
  obtain ⟨E, hE⟩ : ∃ E, E = rngE dg L R day day := ⟨_, rfl⟩
  rw [← hE] at D0
  have D0 := hide D0
  by_cases hE0 : E = 0
  · subst hE0
    have hE2 := hE.symm
    unfold rngE at hE2
    split at hE2
    · cases hE2
    · rename_i hb
      have hG := errC_good hE2
      have hia := fault_isA hE2 hok
      have hnm := good_names hG
      have hlen : na ≤ 100 := by rw [← hL]; exact hG.len
      have hfD : isD day := (isDb_iff day).1 (by simpa using (fun h => hb (.inr (.inr (.inl h)))))
      obtain ⟨d, rfl⟩ : ∃ d : Nat, dg = (d : Int) := ⟨dg.toNat, by omega⟩
      have hd : d ≤ 6 := by omega
      have HANS : Hid (ansQ (d : Int) L R day = shtA (ovP L R day) (hdP day) (rowsP d L R day)) := by
        show _ = _
        unfold ansQ
        rw [if_pos hE.symm]
        rfl
      have HL := hide hL; have HLL := hide hLL; have HNA := hide hlen; have HSZ := hide hsz; have HTY := hide hty; have HR := hide hR; have HLR := hide hLR; have HIA := hide hia; have HNR := hide hnr; have HFD := hide hfD; have HNM := hide hnm; have HD := hide hd
      have HAML : Hid (∀ ty cr, (amsL L 1 day ty ⟨#[]⟩ cr R).length ≤ 104857600) := fun ty cr => ams_small (by omega) (by omega) _ _ _ _ _
      have HLL100 : Hid (L.length ≤ 100) := by show _ ≤ _; omega
      clear hL hLL hpc hna hsz hty hR hLR hok hnr hE hE2 hb hG hia hnm hlen hfD hday hdg
      go_enter Tryz.func31, Tryz.ntmps31
      go_wp2_with fail
      refine (unhide D0).mono ?_
      rintro e w1 ⟨⟨v1, rfl⟩, hb1⟩
      clear D0
      obtain ⟨kb, hkb⟩ : ∃ k, k = w1.heap.size := ⟨_, rfl⟩
      obtain ⟨w2, hw2⟩ : ∃ W, W = w1.alloc (bkO pa na ca pr nr crr 1 day false) := ⟨_, rfl⟩
      have b12 : Below w1.heap.size w1 w2 := by rw [hw2]; exact bal (Below.refl _ _) _
      have hbk2 : w2.heap[kb]? = some (bkO pa na ca pr nr crr 1 day false) := by rw [hw2, hkb]; exact heap_new _ _
      have hb2 : Below w.heap.size w w2 := hb1.trans (b12.mono hb1.size)
      have hwk : w.heap.size ≤ kb := by rw [hkb]; exact hb1.size
      have hkw2 : kb < w2.heap.size := (Array.getElem?_eq_some_iff.1 hbk2).1
      have HLI : Hid (∀ W, Below w.heap.size w W → Lies Ch.kA W pa L ∧ Lies kU W pr R) := fun W hb => ⟨(unhide HLL).below hb, (unhide HLR).below hb⟩
      have HGB : Hid (∀ W W' : World, Below w.heap.size w W → kb < W.heap.size → W.grownBy W' (some kb) → Below w.heap.size w W') := fun W W' h1 h2 h3 => h1.trans (grown_bel h3 hwk h2)
      have HAM : Hid (∀ (W : World) (ov : Bool), Below w.heap.size w W → W.heap[kb]? = some (bkO pa na ca pr nr crr 1 day ov) → ∀ (ty : Int) (cr : Bool), Calls Tryz.prog 109 #[.pointer (some ⟨kb, 0, none⟩), .int .i64 ty, .string ⟨#[]⟩, .bool cr] W (AmOut W (amsL L 1 day ty ⟨#[]⟩ cr R))) := fun W ov hb hk ty cr => amounts_any hk (unhide HL) (unhide HLI W hb).1 (unhide HNA) (unhide HR) (unhide HLI W hb).2 (unhide HIA) (unhide HNR) ty ⟨#[]⟩ cr
      have hw2' : w1.alloc (.cells #[.slice pa na ca, .slice pr nr crr, .int .i64 1, .int .i64 day, .bool false] 157) = w2 := by rw [hw2]; rfl
      have D1 := hide (unhide HAM w2 _ hb2 hbk2 2 true)
      have HBK2 := hide hbk2; have HB2 := hide hb2; have HKW2 := hide hkw2; have HKB := hide hkb
      clear hw2 b12 hbk2 hb2 hwk hkw2 hb1 hkb
      go_upto_region 5 with fail
      rw [← unhide HKB]
      clear hw2'
      go_wp2_with fail
      refine (unhide D1).mono ?_
      rintro e w3 ⟨p1, c1, rfl, hA1⟩
      have hk3 := (hA1.bel.block _ (unhide HKW2)).trans (unhide HBK2)
      have hb3 : Below w.heap.size w w3 := (unhide HB2).trans (hA1.bel.mono (unhide HB2).size)
      have D2 := hide (unhide HAM w3 _ hb3 hk3 4 true)
      obtain ⟨M1, hM1⟩ : ∃ M, M = (lPD L R day).length := ⟨_, rfl⟩
      have hI3 : w3.ownsRow w2.heap.size 2 1 (.slice p1 M1 c1) M1 (kN.flat (lPD L R day)) := by rw [hM1]; exact hA1.own
      rw [show (amsL L 1 day 2 ⟨#[]⟩ true R).length = M1 from hM1.symm]
      have HB3 := hide hb3; have HK3 := hide hk3; have HI3 := hide hI3; have HM1 := hide hM1
      clear hk3 hb3 hI3 hM1 hA1 D1
      go_wp2_with fail
      refine (unhide D2).mono ?_
      rintro e w4 ⟨p4, c4, rfl, hA4⟩
      have hk4 := (hA4.bel.block _ (Array.getElem?_eq_some_iff.1 (unhide HK3)).1).trans (unhide HK3)
      have hb4 : Below w.heap.size w w4 := (unhide HB3).trans (hA4.bel.mono (unhide HB3).size)
      have D3 := hide (unhide HAM w4 _ hb4 hk4 5 true)
      obtain ⟨M4, hM4⟩ : ∃ M, M = (lP4 L R day).length := ⟨_, rfl⟩
      have hI4 : w4.ownsRow w3.heap.size 2 1 (.slice p4 M4 c4) M4 (kN.flat (lP4 L R day)) := by rw [hM4]; exact hA4.own
      rw [show (amsL L 1 day 4 ⟨#[]⟩ true R).length = M4 from hM4.symm]
      have HB4 := hide hb4; have HK4 := hide hk4; have HI4 := hide hI4; have HM4 := hide hM4; have HBE4 := hide hA4.bel
      clear hk4 hb4 hI4 hM4 hA4 D2
      go_wp2_with (go_at_call 109; refine (unhide D3).mono ?_)
      rintro e w5 ⟨p5, c5, rfl, hA5⟩
      have hk5 := (hA5.bel.block _ (Array.getElem?_eq_some_iff.1 (unhide HK4)).1).trans (unhide HK4)
      obtain ⟨M5, hM5⟩ : ∃ M, M = (lP5 L R day).length := ⟨_, rfl⟩
      have hI5 : w5.ownsRow w4.heap.size 2 1 (.slice p5 M5 c5) M5 (kN.flat (lP5 L R day)) := by rw [hM5]; exact hA5.own
      rw [show (amsL L 1 day 5 ⟨#[]⟩ true R).length = M5 from hM5.symm]
      have hm4 : M4 ≤ 104857600 := by rw [unhide HM4]; exact unhide HAML 4 true
      have hm5 : M5 ≤ 104857600 := by rw [hM5]; exact unhide HAML 5 true
      have b35 : Below w3.heap.size w3 w5 := (unhide HBE4).trans (hA5.bel.mono (unhide HBE4).size)
      obtain ⟨p6, c6, w6, run6, o6, b6⟩ := ints_app (own_below (unhide HI4) hA5.bel) b35.size hM5.symm hI5 (by omega)
      have b36 : Below w3.heap.size w3 w6 := b35.trans b6
      have hb6 : Below w.heap.size w w6 := (unhide HB3).trans (b36.mono (unhide HB3).size)
      have hk6 : w6.heap[kb]? = some (bkO pa na ca pr nr crr 1 day false) := (b6.block _ (Array.getElem?_eq_some_iff.1 (unhide HK3)).1).trans hk5
      obtain ⟨MR, hMR⟩ : ∃ M, M = M4 + M5 := ⟨_, rfl⟩
      rw [← hMR] at run6 o6
      have D4 := hide (unhide HAM w6 _ hb6 hk6 3 true)
      have hlR : (lPR L R day).length = MR := by unfold lPR; rw [List.length_append, ← unhide HM4, ← hM5, hMR]
      have HRUN6 := hide run6; have HO6 : Hid (w6.ownsRow w3.heap.size 2 1 (.slice p6 MR c6) MR (kN.flat (lPR L R day))) := o6
      have HB6 := hide hb6; have HK6 := hide hk6; have HB36 := hide b36; have HMR := hide hlR; have HMRB : Hid (MR ≤ 209715200) := by show _ ≤ _; omega
      clear hk5 hI5 hM5 hA5 hm4 hm5 b35 run6 o6 b6 b36 hb6 hk6 hMR hlR D3 HI4 HK4 HB4 HBE4
      go_wp2_with first | (at_builtin; refine wpList_append_run rfl _ _ 92 rfl _ _ _ _ rfl rfl (unhide HRUN6) ?_; clear HRUN6) | (go_at_call 109; refine (unhide D4).mono ?_)
      rintro e w7 ⟨p7, c7, rfl, hA7⟩
      obtain ⟨M7, hM7⟩ : ∃ M, M = (lPE L R day).length := ⟨_, rfl⟩
      have hI7 : w7.ownsRow w6.heap.size 2 1 (.slice p7 M7 c7) M7 (kN.flat (lPE L R day)) := by rw [hM7]; exact hA7.own
      rw [show (amsL L 1 day 3 ⟨#[]⟩ true R).length = M7 from hM7.symm]
      have hm7 : M7 ≤ 104857600 := by rw [hM7]; exact unhide HAML 3 true
      obtain ⟨p8, c8, w8, run8, o8, b8⟩ := ints_app hI7 hA7.bel.size (unhide HMR) (own_below (unhide HO6) hA7.bel) (by have := unhide HMRB; omega)
      have b68 : Below w6.heap.size w6 w8 := hA7.bel.trans b8
      have b38 : Below w3.heap.size w3 w8 := (unhide HB36).trans (b68.mono (unhide HB36).size)
      have hb8 : Below w.heap.size w w8 := (unhide HB3).trans (b38.mono (unhide HB3).size)
      have hk8 : w8.heap[kb]? = some (bkO pa na ca pr nr crr 1 day false) := (b68.block _ (Array.getElem?_eq_some_iff.1 (unhide HK6)).1).trans (unhide HK6)
      have hkw8 : kb < w8.heap.size := (Array.getElem?_eq_some_iff.1 hk8).1
      obtain ⟨MO, hMO⟩ : ∃ M, M = M7 + MR := ⟨_, rfl⟩
      rw [← hMO] at run8 o8
      have hlO : (lPO L R day).length = MO := by unfold lPO; rw [List.length_append, ← hM7, unhide HMR, hMO]
      have oD8 := own_below (unhide HI3) b38
      have oR8 := own_below (unhide HO6) b68
      have HKI : Hid (∀ W, w8.grownBy W (some kb) → W.ownsRow w2.heap.size 2 1 (.slice p1 M1 c1) M1 (kN.flat (lPD L R day)) ∧ W.ownsRow w3.heap.size 2 1 (.slice p6 MR c6) MR (kN.flat (lPR L R day)) ∧ W.ownsRow w6.heap.size 2 1 (.slice p8 MO c8) MO (kN.flat (lPO L R day)) ∧ Below w.heap.size w W) := fun W hW => by
        have h := hk8
        unfold bkO at h
        exact ⟨own_kept oD8 h (by decide) hW, own_kept oR8 h (by decide) hW, own_kept o8 h (by decide) hW, unhide HGB w8 W hb8 hkw8 hW⟩
      have HBLK : Hid (∀ (W : World) (ov : Bool), w8.grownBy W (some kb) → bkK pa na ca pr nr crr 1 day kb ov W → ∀ (title : ByteArray) (ty : Int), fits64 ty → ∀ cr : Bool, Calls Tryz.prog 110 #[.pointer (some ⟨kb, 0, none⟩), .string title, .int .i64 ty, .bool cr, .int .i64 (d : Int)] W (RbOut W pa na ca pr nr crr 1 day kb ov title (fun a => amsL L 1 day ty (Ch.txN a.nm) cr R) ty d L)) := fun W ov hg hk title ty hty2 cr => rblock_any hk (unhide HL) (unhide HNA) (unhide HSZ) (unhide HTY) (unhide HR) (unhide HIA) (unhide HNR) (fun V hV => unhide HLI V (unhide HGB W V (unhide HGB w8 W hb8 hkw8 hg) hk.lt hV)) title ty hty2 cr d (unhide HD)
      have D5 := hide (unhide HBLK w8 false ⟨rfl, rfl, rfl, Nat.le_refl _, fun _ _ _ => rfl⟩ hk8 tiA 1 (by unfold fits64; omega) false)
      unfold tiA at D5
      have HKW8 := hide hkw8; have HRUN8 := hide run8; have HMO := hide hlO; have HMOB : Hid (MO ≤ 314572800) := by have := unhide HMRB; show _ ≤ _; omega
      clear hI7 hM7 hA7 hm7 run8 o8 b8 b68 b38 hb8 hk8 hkw8 hMO hlO oD8 oR8 D4 HO6 HB36 HK6 HB6 HI3 HK3 HB3
      go_wp2_with first | (at_builtin; refine wpList_append_run rfl _ _ 92 rfl _ _ _ _ rfl rfl (unhide HRUN8) ?_; clear HRUN8) | (go_at_call 110; refine (unhide D5).mono ?_)
      rintro e w9 ⟨p9, c9, rfl, hR9⟩
      have r9 : RiAt w8 pa na ca pr nr crr 1 day kb _ _ _ w9 := ⟨hR9.bk, hR9.rl, hR9.grw⟩
      have hn9 := rbR_len (gPA L R day) 1 d L
      obtain ⟨N9, hN9⟩ : ∃ M, M = (rbR (gPA L R day) 1 d L).length + 1 := ⟨_, rfl⟩
      have HR9 : Hid (RiAt w8 pa na ca pr nr crr 1 day kb (rbO (gPA L R day) 1 false L) ([[tiA.data.toList]] ++ rbR (gPA L R day) 1 d L) (.slice p9 N9 c9) w9) := by
        rw [hN9]
        exact r9
      have HL9 : Hid (([[tiA.data.toList]] ++ rbR (gPA L R day) 1 d L).length = N9) := by
        show _ = _
        rw [hN9]
        simp only [List.length_append, List.length_singleton]; omega
      have HN9 : Hid (N9 ≤ 101) := by have := unhide HLL100; show _ ≤ _; omega
      rw [show (rbR (fun a => amsL L 1 day 1 (Ch.txN a.nm) false R) 1 d L).length + 1 = N9 from hN9.symm]
      have hk9 := (unhide HR9).bk
      unfold bkK at hk9
      have D6 := hide (unhide HAM w9 _ (unhide HKI w9 (unhide HR9).grw).2.2.2 hk9 1 false)
      clear hR9 r9 hn9 hN9 hk9 D5
      go_wp2_with (go_at_call 109; refine (unhide D6).mono ?_)
      rintro e w10 ⟨p10, c10, rfl, hA10⟩
      obtain ⟨M10, hM10⟩ : ∃ M, M = (lPA L R day).length := ⟨_, rfl⟩
      have hI10 : w10.ownsRow w9.heap.size 2 1 (.slice p10 M10 c10) M10 (kN.flat (lPA L R day)) := by rw [hM10]; exact hA10.own
      rw [show (amsL L 1 day 1 ⟨#[]⟩ false R).length = M10 from hM10.symm]
      have hm10 : M10 ≤ 104857600 := by rw [hM10]; exact unhide HAML 1 false
      have r10 := (unhide HR9).below hA10.bel
      have D7 := hide (rline_any r10.bk (txB [83, 117, 109]) hM10.symm hI10 (amsL_isA (unhide HIA)) (by omega) d (unhide HD))
      have HR10 := hide r10
      clear hI10 hM10 hm10 hA10 r10 D6 HR9
      go_wp2_with (go_at_call 111; refine (unhide D7).mono ?_)
      rintro e w11 ⟨g11, rfl, hr11, hk11, hg11⟩
      obtain ⟨N12, p12, c12, w12, hN12, run12, r12, l12⟩ := (unhide HR10).line (unhide HKW8) (unhide HL9) (by have := unhide HN9; omega) hr11 hk11 hg11
      have HN12 : Hid (N12 ≤ 102) := by have := unhide HN9; show _ ≤ _; omega
      have HRUN12 := hide run12; have HR12 := hide r12; have HL12 := hide l12
      clear hr11 hk11 hg11 hN12 run12 r12 l12 D7 HR10 HL9 HN9
      have D8 := hide (unhide HBLK w12 _ (unhide HR12).grw (unhide HR12).bk tiD 2 (by unfold fits64; omega) true)
      unfold tiD at D8
      go_wp2_with first | (at_builtin; refine wpList_append_run rfl _ _ 94 rfl _ _ _ _ rfl rfl (unhide HRUN12) ?_; clear HRUN12) | (go_at_call 110; refine (unhide D8).mono ?_)
      rintro e w13 ⟨p13, c13, rfl, hR13⟩
      obtain ⟨m14, N14, p14, c14, w14, hm14, hN14, run14, r14, l14⟩ := (unhide HR12).blk (unhide HKW8) (unhide HL12) (by have := unhide HN12; omega) (unhide HLL100) hR13
      rw [← hm14]
      have HN14 : Hid (N14 ≤ 203) := by have := unhide HN12; show _ ≤ _; omega
      have HRUN14 := hide run14; have HR14 := hide r14; have HL14 := hide l14
      clear hR13 hm14 hN14 run14 r14 l14 D8 HR12 HL12 HN12
      have s14 := unhide HKI w14 (unhide HR14).grw
      have D9 := hide (rline_any (unhide HR14).bk (txB [83, 117, 109]) (unhide HM1).symm s14.1 (amsL_isA (unhide HIA)) (by have h9 : M1 ≤ 104857600 := (by rw [unhide HM1]; exact unhide HAML 2 true); omega) d (unhide HD))
      clear s14
      go_wp2_with first | (at_builtin; refine wpList_append_run rfl _ _ 94 rfl _ _ _ _ rfl rfl (unhide HRUN14) ?_; clear HRUN14) | (go_at_call 111; refine (unhide D9).mono ?_)
      rintro e w15 ⟨g15, rfl, hr15, hk15, hg15⟩
      obtain ⟨N16, p16, c16, w16, hN16, run16, r16, l16⟩ := (unhide HR14).line (unhide HKW8) (unhide HL14) (by have := unhide HN14; omega) hr15 hk15 hg15
      have HN16 : Hid (N16 ≤ 204) := by have := unhide HN14; show _ ≤ _; omega
      have HRUN16 := hide run16; have HR16 := hide r16; have HL16 := hide l16
      clear hr15 hk15 hg15 hN16 run16 r16 l16 D9 HR14 HL14 HN14
      have D10 := hide (unhide HBLK w16 _ (unhide HR16).grw (unhide HR16).bk tiE 3 (by unfold fits64; omega) true)
      unfold tiE at D10
      go_wp2_with first | (at_builtin; refine wpList_append_run rfl _ _ 94 rfl _ _ _ _ rfl rfl (unhide HRUN16) ?_; clear HRUN16) | (go_at_call 110; refine (unhide D10).mono ?_)
      rintro e w17 ⟨p17, c17, rfl, hR17⟩
      obtain ⟨m18, N18, p18, c18, w18, hm18, hN18, run18, r18, l18⟩ := (unhide HR16).blk (unhide HKW8) (unhide HL16) (by have := unhide HN16; omega) (unhide HLL100) hR17
      rw [← hm18]
      have HN18 : Hid (N18 ≤ 305) := by have := unhide HN16; show _ ≤ _; omega
      have HRUN18 := hide run18; have HR18 := hide r18; have HL18 := hide l18
      clear hR17 hm18 hN18 run18 r18 l18 D10 HR16 HL16 HN16
      have s18 := unhide HKI w18 (unhide HR18).grw
      have D11 := hide (rline_any (unhide HR18).bk (txB [32, 32, 82, 101, 115, 117, 108, 116]) (unhide HMR) s18.2.1 (fun z hz => by rcases List.mem_append.1 hz with hz | hz <;> exact amsL_isA (unhide HIA) z hz) (by have := unhide HMRB; omega) d (unhide HD))
      clear s18
      go_wp2_with first | (at_builtin; refine wpList_append_run rfl _ _ 94 rfl _ _ _ _ rfl rfl (unhide HRUN18) ?_; clear HRUN18) | (go_at_call 111; refine (unhide D11).mono ?_)
      rintro e w19 ⟨g19, rfl, hr19, hk19, hg19⟩
      obtain ⟨N20, p20, c20, w20, hN20, run20, r20, l20⟩ := (unhide HR18).line (unhide HKW8) (unhide HL18) (by have := unhide HN18; omega) hr19 hk19 hg19
      have HN20 : Hid (N20 ≤ 306) := by have := unhide HN18; show _ ≤ _; omega
      have HRUN20 := hide run20; have HR20 := hide r20; have HL20 := hide l20
      clear hr19 hk19 hg19 hN20 run20 r20 l20 D11 HR18 HL18 HN18
      have s20 := unhide HKI w20 (unhide HR20).grw
      have D12 := hide (rline_any (unhide HR20).bk (txB [83, 117, 109]) (unhide HMO) s20.2.2.1 (fun z hz => by
        rcases List.mem_append.1 hz with hz | hz
        · exact amsL_isA (unhide HIA) z hz
        · rcases List.mem_append.1 hz with hz | hz <;> exact amsL_isA (unhide HIA) z hz) (by have := unhide HMOB; omega) d (unhide HD))
      clear s20
      go_wp2_with first | (at_builtin; refine wpList_append_run rfl _ _ 94 rfl _ _ _ _ rfl rfl (unhide HRUN20) ?_; clear HRUN20) | (go_at_call 111; refine (unhide D12).mono ?_)
      rintro e w21 ⟨g21, rfl, hr21, hk21, hg21⟩
      obtain ⟨N22, p22, c22, w22, hN22, run22, r22, l22⟩ := (unhide HR20).line (unhide HKW8) (unhide HL20) (by have := unhide HN20; omega) hr21 hk21 hg21
      have HN22 : Hid (N22 ≤ 307) := by have := unhide HN20; show _ ≤ _; omega
      have HRUN22 := hide run22; have HR22 := hide r22; have HL22 := hide l22
      clear hr21 hk21 hg21 hN22 run22 r22 l22 D12 HR20 HL20 HN20
      obtain ⟨i22, -, j22, hb22⟩ := unhide HKI w22 (unhide HR22).grw
      obtain ⟨w23, hw23⟩ : ∃ W, W = w22.alloc (.cells #[] 2) := ⟨_, rfl⟩
      have b2223 : Below w22.heap.size w22 w23 := by rw [hw23]; exact bal (Below.refl _ _) _
      have o23 : w23.ownsRow w22.heap.size 2 1 (.slice (some ⟨w22.heap.size, 0, none⟩) 0 0) 0 (kN.flat []) := by
        rw [hw23]
        exact World.ownsRow_lit (base := w22.heap.size) (e := 2) (size := 1) w22 #[] 0 (Nat.le_refl _) (by decide) rfl
      have hm1 : M1 ≤ 104857600 := by rw [unhide HM1]; exact unhide HAML 2 true
      have hmo := unhide HMOB
      obtain ⟨p24, c24, w24, run24, o24, b2324⟩ := ints_app o23 b2223.size (unhide HM1).symm (own_below i22 b2223) (by omega)
      rw [Nat.zero_add] at run24 o24
      rw [List.nil_append] at o24
      have b2224 : Below w22.heap.size w22 w24 := b2223.trans b2324
      obtain ⟨p25, c25, w25, run25, o25, b2425⟩ := ints_app o24 b2224.size (unhide HMO) (own_below j22 b2224) (by omega)
      have b2225 : Below w22.heap.size w22 w25 := b2224.trans b2425
      have r25 := (unhide HR22).below b2225
      have lT : (lPT L R day).length = M1 + MO := by unfold lPT; rw [List.length_append, ← unhide HM1, unhide HMO]
      have D13 := hide (rline_any (l := lPT L R day) r25.bk (txB [84, 111, 116, 97, 108]) lT o25 (fun z hz => by
        rcases List.mem_append.1 hz with hz | hz
        · exact amsL_isA (unhide HIA) z hz
        · rcases List.mem_append.1 hz with hz | hz
          · exact amsL_isA (unhide HIA) z hz
          · rcases List.mem_append.1 hz with hz | hz <;> exact amsL_isA (unhide HIA) z hz) (by omega) d (unhide HD))
      obtain ⟨MT, hMT⟩ : ∃ M, M = M1 + MO := ⟨_, rfl⟩
      rw [← hMT] at run25 D13
      have hw23' := hw23.symm
      have HRUN24 := hide run24; have HRUN25 := hide run25; have HR25 := hide r25
      clear hw23 b2223 o23 hm1 hmo run24 o24 b2324 b2224 run25 o25 b2425 b2225 r25 lT hMT i22 j22 hb22 HR22
      go_upto_region 15 with (at_builtin; refine wpList_append_run rfl _ _ 94 rfl _ _ _ _ rfl rfl (unhide HRUN22) ?_; clear HRUN22)
      go_wp2_with first | (at_builtin; refine wpList_append_run rfl _ _ 92 rfl _ _ _ _ rfl rfl (unhide HRUN24) ?_; clear HRUN24) | (at_builtin; refine wpList_append_run rfl _ _ 92 rfl _ _ _ _ rfl rfl (unhide HRUN25) ?_; clear HRUN25) | (go_at_call 111; refine (unhide D13).mono ?_)
      clear hw23'
      rintro e w26 ⟨g26, rfl, hr26, hk26, hg26⟩
      obtain ⟨N27, p27, c27, w27, hN27, run27, r27, l27⟩ := (unhide HR25).line (unhide HKW8) (unhide HL22) (by have := unhide HN22; omega) hr26 hk26 hg26
      have HN27 : Hid (N27 ≤ 308) := by have := unhide HN22; show _ ≤ _; omega
      have HRUN27 := hide run27
      have HR27 : Hid (RiAt w8 pa na ca pr nr crr 1 day kb (ovP L R day) (rowsP d L R day) (.slice p27 N27 c27) w27) := by
        unfold ovP rowsP
        exact r27
      have HL27 : Hid ((rowsP d L R day).length = N27) := by
        show _ = _
        unfold rowsP
        exact l27
      clear hr26 hk26 hg26 hN27 run27 r27 l27 D13 HR25 HL22 HN22
      have hb27 := (unhide HKI w27 (unhide HR27).grw).2.2.2
      have D14 := rdate_any day (unhide HFD) w27
      obtain ⟨T1, hT1⟩ : ∃ T, T = txB (dtx day) := ⟨_, rfl⟩
      have z1 : T1.size ≤ 100 := by rw [hT1, txB_len]; exact dtx_len day
      unfold TxtOut at D14
      rw [← hT1] at D14
      have k1 : ¬ 9223372036854775807 < 3 + T1.size := by omega
      have D14 := hide D14; have HT1 := hide hT1; have HB27 := hide hb27
      clear z1 hT1 hb27
      go_wp2_with first | (at_builtin; refine wpList_append_run rfl _ _ 94 rfl _ _ _ _ rfl rfl (unhide HRUN27) ?_; clear HRUN27) | (go_at_call 99; refine (unhide D14).mono ?_; rintro e w28 ⟨rfl, hb28⟩; have HB28 := hide hb28; clear hb28 D14)
      have hdl : (hdP day).length ≤ 1000 := by
        have := dtx_len day
        unfold hdP
        simp only [List.length_append, List.length_cons, List.length_nil]
        omega
      have r28 := (unhide HR27).below (unhide HB28)
      have D15 := rsheet_any r28.bk (hdP day) hdl (c := c27) (unhide HL27) r28.rl (by have := unhide HN27; omega) (rowsP_two d L R day) (rowsP_cell (unhide HD) (unhide HNM) R day)
      have eh : txB (hdP day) = (⟨#[65, 116, 32]⟩ : ByteArray) ++ T1 := by
        unfold hdP
        rw [← txB_app, unhide HT1]
        rfl
      rw [eh] at D15
      have D15 := hide D15
      have HB1 : Hid (Below w.heap.size w w28) := (unhide HB27).trans ((unhide HB28).mono (unhide HB27).size)
      clear hdl r28 eh
      go_wp2_with (go_at_call 112; refine (unhide D15).mono ?_; rintro e w29 ⟨rfl, hb29⟩; have HB29 := hide hb29; clear hb29 D15)
      go_ret2
      refine ⟨?_, (unhide HB1).trans ((unhide HB29).mono (unhide HB1).size)⟩
      rw [unhide HANS]
      rfl
  · have hb : (E != 0) = true := by rw [bne_iff_ne]; exact hE0
    have HE : Hid (ansQ dg L R day = ([], E)) := by
      show _ = _
      unfold ansQ
      rw [← hE, if_neg hE0]
    clear hL hLL hpc hna hsz hty hR hLR hok hnr hE
    go_enter Tryz.func31, Tryz.ntmps31
    go_wp2_with fail
    refine (unhide D0).mono ?_
    rintro e w1 ⟨⟨v1, rfl⟩, hb1⟩
    have HB := hide hb1
    clear hb1 D0
    go_wp2_with fail
    go_ret2
    exact ⟨by rw [unhide HE]; rfl, unhide HB⟩
end Go.Proofs.YtcafhmlpmbkhkaaGreatDoor
