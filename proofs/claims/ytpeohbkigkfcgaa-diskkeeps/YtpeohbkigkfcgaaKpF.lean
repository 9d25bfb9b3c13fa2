/- shows (20): the disk tells just the book's files. -/
import Derived.Test.YtpeohbkigkfcgaaKpE
namespace Go.Proofs.Ytpeohbkigkfcgaa
open Go Go.Shelf Go.ChangeShapes Go.WideShapes Go.ChangeAt Go.RowKit Go.Maps Go.Sort
set_option linter.unusedVariables false
set_option maxRecDepth 100000 in
set_option maxHeartbeats 4000000 in
theorem list_down {w : World} {d N n : Nat} {K : Dk} {S : Nat → Prop} {mo : Option Nat} {es : List (Lit × DataW Value)} (h : DiskIs w d N K S mo n es) (hdn : K.down = true) :
    Calls Try.prog 27 #[.pointer (some ⟨d, 0, none⟩)] w fun e w' => e = .returned (.tuple #[.slice none 0 0, .int .i64 34]) ∧ w' = w := by
  have c3 := h.at'.c3
  rw [hdn] at c3
  clear h
  go_enter Try.func27, Try.ntmps27
  go_wp2_with fail
  go_ret2
  exact ⟨rfl, rfl⟩
theorem DiskOK.same {W W' : World} {d N : Nat} {K : Dk} {S : Nat → Prop} (h : DiskOK W d N K S) (hh : W'.heap = W.heap) : DiskOK W' d N K S := by
  obtain ⟨mo, n, es, h⟩ := h
  exact ⟨mo, n, es, h.far (fun q _ => by rw [hh]) (by rw [hh]; exact Nat.le_refl _)⟩
theorem before_less {s t : ByteArray} (h : bytesBefore s.data.toList t.data.toList = true) : Op.bytesLess s.toList t.toList = true := by
  rw [ByteArray.toList_eq, ByteArray.toList_eq, less_before]
  exact h
set_option maxRecDepth 100000 in
set_option maxHeartbeats 4000000 in
theorem shows_up {w : World} {d N : Nat} {S : Nat → Prop} {cap fu : Int} {A : Fs} (hD : DiskOK w d N ⟨cap, A, fu, false⟩ S) (hI : Inv ⟨cap, A, fu, false⟩) {U : Nat → Prop} {v : Value} {l : Fs} (hb : BookAt w U v l) (hp : l.Perm A) :
    Calls Try.prog 20 #[.pointer (some ⟨d, 0, none⟩), v] w fun e w' => e = .returned (.bool true) ∧ Below w.heap.size w w' := by
  obtain ⟨pa, ca, rfl⟩ := hb.form
  obtain ⟨L, hL⟩ : ∃ L, L = A.length := ⟨_, rfl⟩
  have hlL : l.length = L := by rw [hL]; exact hp.length_eq
  have hm : L ≤ 64 := by rw [hL]; exact hI.many
  have ht : (totF A : Int) ≤ cap := hI.tot
  have hc1 : cap ≤ 1048576 := hI.cap1
  have hnd : Hid ((l.map (·.1)).Nodup) := perm_nodup hp (ord_nodup hI.ord)
  rw [hlL] at hb ⊢
  have HBK := hide hb; have HD := hide hD; have HI := hide hI; have HP := hide hp; have HL := hide hL; have HLL := hide hlL
  clear hb hD hI hp hL hlL
  go_enter Try.func20, Try.ntmps20
  go_wp2_with fail
  obtain ⟨mo1, m1, es1, hD1⟩ := unhide HD
  refine (state_ok hD1 (unhide HI)).mono ?_
  rintro e w1 ⟨⟨v1, he1, fb1, hfb1, hfr1⟩, hb1⟩
  have hfr1 : FilesRow w1 fb1 w1.heap.size v1 A := hfr1
  obtain ⟨p1, c1, rfl⟩ := hfr1.form
  have he1 : e = .returned (.agg #[.int .i64 cap, .slice p1 A.length c1, .int .i64 fu, .bool false]) := he1
  subst he1
  rw [← unhide HL] at hfr1 ⊢
  have z1 := hb1.size
  have F1 := hide hfr1
  have B1 := hide hb1
  clear hfr1 hb1 hD1
  go_wp2_with fail
  obtain ⟨w2, hw2⟩ : ∃ w2, w2 = w1.alloc (.cells #[.int .i64 cap, .slice p1 L c1, .int .i64 fu, .bool false] 31) := ⟨_, rfl⟩
  have b2 : Below w1.heap.size w1 w2 := by rw [hw2]; exact bal (Below.refl _ _) _
  have z2 : w2.heap.size = w1.heap.size + 1 := by rw [hw2]; simp
  have a0 : w2.cell? ⟨w1.heap.size, 0, none⟩ = some (.int .i64 cap) := by rw [hw2, World.cell?_alloc_mark]; rfl
  have a1 : w2.cell? ⟨w1.heap.size, 1, none⟩ = some (.slice p1 L c1) := by rw [hw2, World.cell?_alloc_mark]; rfl
  have a3 : w2.cell? ⟨w1.heap.size, 3, none⟩ = some (.bool false) := by rw [hw2, World.cell?_alloc_mark]; rfl
  rw [← hw2]
  clear hw2
  have B2 : Hid (Below w.heap.size w w2) := (unhide B1).trans (b2.mono (unhide B1).size)
  have F2 := hide ((unhide F1).below (Nat.le_refl _) b2)
  clear b2
  obtain ⟨mo2, m2, es2, hD2⟩ := (unhide HD).below (unhide B2)
  refine (list_ok hD2 (unhide HI).ord (unhide HI).many rfl).mono ?_
  rintro e w3 ⟨vn, rfl, hrn, hb3⟩
  have hrn : w3.ownsRow w2.heap.size 9 1 vn A.length ((A.map (·.1)).map encStr) := hrn
  have hvn : ∃ pn cn, vn = .slice pn L cn := by
    rw [unhide HL]
    rcases hrn.2 with ⟨h1, h2⟩ | ⟨g, cap', cur, h1, _⟩
    · exact ⟨none, 0, by rw [h1, h2]⟩
    · exact ⟨_, _, h1⟩
  obtain ⟨pn, cn, rfl⟩ := hvn
  have RN := hide hrn
  have z3 := hb3.size
  have q0 := keep1 hb3 (by omega) a0
  have q1 := keep1 hb3 (by omega) a1
  have q3 := keep1 hb3 (by omega) a3
  have B3 : Hid (Below w.heap.size w w3) := (unhide B2).trans (hb3.mono (unhide B2).size)
  have F3 := hide ((unhide F2).below (by omega) hb3)
  clear hb3 hrn hD2
  clear a0 a1 a3
  have Q0 := hide q0; have Q1 := hide q1; have Q3 := hide q3; have Z2 := hide z2; have Z1 := hide z1; have Z3 := hide z3
  clear q0 z2 z1 z3
  go_wp2_with fail
  go_loopw [6, 9] (fun un ui wr => ∃ i : Nat, i ≤ L ∧ ui = .int .i64 (i : Int) ∧ un = .int .i64 (totF (A.take i) : Int) ∧ Below w3.heap.size w3 wr) (fun _ u _ => L - (intOf u).toNat)
  case atStart => exact ⟨0, Nat.zero_le _, rfl, by simp [totF], Below.refl _ _⟩
  case round =>
    obtain ⟨i, hi, rfl, rfl, hbr⟩ := hrel
    have HBR := hide hbr
    have z1 := unhide Z1; have z2 := unhide Z2; have z3 := unhide Z3
    have zr := hbr.size
    have s1 := keep1 hbr (by omega) (unhide Q1)
    have s3 := keep1 hbr (by omega) (unhide Q3)
    have s0 := keep1 hbr (by omega) (unhide Q0)
    have BW : Hid (Below w.heap.size w wr) := (unhide B3).trans (hbr.mono (unhide B3).size)
    by_cases hlt : i < L
    · have hkx : ∃ k x, A[i]? = some (k, x) := by
        have : i < A.length := by rw [← unhide HL]; exact hlt
        exact ⟨_, _, List.getElem?_eq_getElem this⟩
      obtain ⟨k, x, hkx⟩ := hkx
      have hmem := List.mem_of_getElem? hkx
      have hnm : nameS ⟨k.toArray⟩ = true := (unhide HI).nm _ hmem
      have hget := get_at (unhide HI).ord hkx
      have hxl : x.bs.length ≤ 1048576 := by
        have h1 : x.bs.length ≤ totF A := get_le_tot hget
        omega
      have htk := tot_take_succ hkx
      have htl := tot_take_le A (i + 1)
      obtain ⟨gf, xf, pf, cf, b1', ev, lf, a0, a1, a2, ra⟩ := ((unhide F3).below (by omega) hbr).at hkx
      injection ev with ev eL ev3
      subst ev ev3
      clear eL
      obtain ⟨j, hj, hidx⟩ := idx_of (l := l) (x := x) 0 (((unhide HP).mem_iff).2 hmem) (unhide hnd)
      rw [Nat.zero_add] at hidx
      have hjL : j < L := by
        have h1 := (List.getElem?_eq_some_iff.1 hj).1
        have h2 := unhide HLL
        omega
      obtain ⟨s, hs, hsk⟩ : ∃ s : ByteArray, encStr k = .string s ∧ s.data.toList = k := ⟨_, rfl, rfl⟩
      have hnm : nameS s = true := by
        have : s = ⟨k.toArray⟩ := bytes_inj (by rw [hsk])
        rw [this]
        exact hnm
      have hsz : s.size ≤ maxLen := by have := nameS_size hnm; unfold maxLen; omega
      rw [hs] at a0
      obtain ⟨w4, hw4⟩ : ∃ w4, w4 = wr.alloc (.cells #[.string s, .slice pf x.bs.length cf, .int .i64 (x.sy : Int)] 70) := ⟨_, rfl⟩
      have b4 : Below wr.heap.size wr w4 := by rw [hw4]; exact bal (Below.refl _ _) _
      have z4 : w4.heap.size = wr.heap.size + 1 := by rw [hw4]; simp
      have f0 : w4.cell? ⟨wr.heap.size, 0, none⟩ = some (.string s) := by rw [hw4, World.cell?_alloc_mark]; rfl
      have f1 : w4.cell? ⟨wr.heap.size, 1, none⟩ = some (.slice pf x.bs.length cf) := by rw [hw4, World.cell?_alloc_mark]; rfl
      have f2 : w4.cell? ⟨wr.heap.size, 2, none⟩ = some (.int .i64 (x.sy : Int)) := by rw [hw4, World.cell?_alloc_mark]; rfl
      have s1' := keep1 b4 (by omega) s1
      have s3' := keep1 b4 (by omega) s3
      have e0 := keep1 b4 lf a0
      have BW4 : Hid (Below w.heap.size w w4) := (unhide BW).trans (b4.mono (unhide BW).size)
      have hbk4 := (unhide HBK).below (unhide BW4)
      have HFIND := find18_ok hbk4 (by have := unhide HLL; omega) s
      rw [hsk, hidx] at HFIND
      have HFIND := hide HFIND
      have hra4 := own_below ra b4
      rw [← unhide HLL] at hbk4
      obtain ⟨g, ca', pl, cl, eg, hgU, hg, n0, n1, n2, nf, rl, rlU⟩ := hbk4.at hj
      injection eg with eg eL eg3
      subst eg eg3
      clear eL
      obtain ⟨Tt, hT⟩ : ∃ Tt, Tt = txtB x.bs := ⟨_, rfl⟩
      have cv1n : ∀ n, (convert 27 9 (.slice pf x.bs.length cf)).run Try.prog (w4.drewN n) = .ok (.string Tt) (w4.drewN n) := fun n => by rw [hT]; exact conv_row (row_far hra4 (fun q _ => rfl))
      have cv2n : ∀ n, (convert 27 9 (.slice pl x.bs.length cl)).run Try.prog (w4.drewN n) = .ok (.string Tt) (w4.drewN n) := fun n => by rw [hT]; exact conv_row (row_far rl (fun q _ => rfl))
      have HRA4 := hide hra4; have HTT := hide hT
      have hgn : ∃ gn, pn = some ⟨gn, 0, none⟩ ∧ gn < w3.heap.size ∧ w3.cell? ⟨gn, i, none⟩ = some (.string s) := by
        have hr := unhide RN
        obtain ⟨gn, cn', e'⟩ := own_open hr (by have := unhide HL; omega)
        injection e' with e' _ _
        refine ⟨gn, e', (hr.lt gn (by rw [e']; rfl)).2, ?_⟩
        have := hr.cells (g := gn) (by rw [e']; rfl) i (.string s) (by rw [List.getElem?_map, List.getElem?_map, hkx]; exact congrArg some hs)
        rw [Addr.add_mid, Nat.zero_add] at this
        exact this
      obtain ⟨gn, rfl, hgn, hgc⟩ := hgn
      have gc4 := keep1 b4 (by omega) (keep1 hbr hgn hgc)
      have HREAD : Hid (∀ n, Calls Try.prog 26 #[.pointer (some ⟨d, 0, none⟩), .string s, .int .i64 0, .int .i64 (x.bs.length : Int)] (w4.drewN n) fun e w' => (∃ p c, e = .returned (.tuple #[.slice p x.bs.length c, .int .i64 0]) ∧ w'.ownsRow 0 5 1 (.slice p x.bs.length c) x.bs.length (bcs x.bs)) ∧ Below w4.heap.size w4 w') := fun n => by
        obtain ⟨mo, nn, es, hDi⟩ := ((unhide HD).below (unhide BW4)).same (W' := w4.drewN n) rfl
        refine (read_ok hDi s hsz rfl hnm (x := x) (by rw [hsk]; exact hget) hxl x.bs.length (Nat.le_refl _)).mono ?_
        rintro e w' ⟨⟨p, c, he, hr⟩, hb⟩
        rw [List.take_length] at hr
        exact ⟨⟨p, c, he, row_base hr (Nat.zero_le _)⟩, ⟨hb.os, hb.tape, hb.output, hb.size, hb.block⟩⟩
      have HSIZE : Hid (∀ w5, Below w4.heap.size w4 w5 → Calls Try.prog 35 #[.pointer (some ⟨d, 0, none⟩), .string s] w5 fun e w' => e = .returned (.tuple #[.int .i64 (x.bs.length : Int), .int .i64 0]) ∧ Below w5.heap.size w5 w') := fun w5 hb5 => by
        obtain ⟨mo, nn, es, hDi⟩ := ((unhide HD).below (unhide BW4)).below hb5
        have := size_ok hDi s hsz
        have hz : sizeK s ⟨cap, A, fu, false⟩ = ((x.bs.length : Int), 0) := by
          unfold sizeK
          have he : erF s ⟨cap, A, fu, false⟩ = 0 := by
            unfold erF
            rw [if_neg (by rw [hnm]; simp), if_pos (by show (getF s.data.toList A).isSome = true; rw [hsk, hget]; rfl)]
          rw [if_neg (by simp), he, if_pos rfl]
          show ((lenF A s.data.toList : Int), (0 : Int)) = _
          unfold lenF
          rw [hsk, hget]
        rw [hz] at this
        exact this
      have H6 : Hid (∀ w6, Below w4.heap.size w4 w6 → (w6.cell? ⟨wr.heap.size, 0, none⟩ = some (.string s) ∧ w6.cell? ⟨wr.heap.size, 1, none⟩ = some (.slice pf x.bs.length cf) ∧ w6.cell? ⟨gn, i, none⟩ = some (.string s) ∧ ∀ n, (convert 27 9 (.slice pf x.bs.length cf)).run Try.prog (w6.drewN n) = .ok (.string Tt) (w6.drewN n))) := fun w6 hb => ⟨keep1 hb (by omega) f0, keep1 hb (by omega) f1, keep1 hb (by omega) gc4, fun n => by rw [hT]; exact conv_row (row_far (own_below hra4 hb) (fun q _ => rfl))⟩
      obtain ⟨xl, hxld⟩ : ∃ xl, xl = x.bs.length := ⟨_, rfl⟩
      obtain ⟨xs, hxsd⟩ : ∃ xs : Int, xs = (x.sy : Int) := ⟨_, rfl⟩
      obtain ⟨T, hTd⟩ : ∃ T, T = totF (A.take i) := ⟨_, rfl⟩
      rw [← hxld] at a1 f1 n1 htk hxl cv1n cv2n hw4 HREAD HSIZE H6
      rw [← hxsd] at a2 f2 n2 hw4
      rw [← hTd] at htk ⊢
      have HTK := hide htk
      have g0 : decide ((j : Int) < 0) = false := by simp
      have i0 : (0 : Int) ≤ (i : Int) := by omega
      have i1 : (i : Int) < (L : Int) := by omega
      have j0 : (0 : Int) ≤ (j : Int) := by omega
      have j1 : (j : Int) < (L : Int) := by omega
      have t0 : (0 : Int) ≤ (T : Int) + (xl : Int) := by omega
      have t1 : (T : Int) + (xl : Int) ≤ 1048576 := by omega
      have H4 := hide hw4; have HB4 := hide b4; have Z4 := hide z4; have HXL := hide hxld
      have hprev : i ≠ 0 → ∃ ip sp, (i : Int) - 1 = ((ip : Nat) : Int) ∧ w4.cell? ⟨gf, ip * 3, none⟩ = some (.string sp) ∧ Op.bytesLess sp.toList s.toList = true := fun h0 => by
        have hip : i - 1 < A.length := by have := unhide HL; omega
        obtain ⟨k', x', hkx'⟩ : ∃ k' x', A[i - 1]? = some (k', x') := ⟨_, _, List.getElem?_eq_getElem hip⟩
        obtain ⟨g', _, _, _, _, ev', lf', a0', _⟩ := (((unhide F3).below (by omega) hbr).below (by omega) b4).at hkx'
        injection ev' with ev' _ _
        injection ev' with ev'
        injection ev' with ev'
        subst ev'
        refine ⟨i - 1, ⟨k'.toArray⟩, by omega, a0', before_less ?_⟩
        rw [hsk]
        have hO := (unhide HI).ord
        obtain ⟨h1, h2⟩ := List.getElem?_eq_some_iff.1 hkx'
        obtain ⟨h3, h4⟩ := List.getElem?_eq_some_iff.1 hkx
        have := List.pairwise_iff_getElem.1 hO (i - 1) i h1 h3 (by omega)
        rw [h2, h4] at this
        simpa using this
      clear hbr hmem hkx hget htk htl ra hidx hj b4 hra4 rl hT nf rlU hs hsk hw4 hxld hxsd hTd hbk4 hxl z4 z1 z2 z3 lf hg
      by_cases hi0 : i = 0
      · have gi : decide ((i : Int) > 0) = false := by rw [hi0]; rfl
        have gi' : decide ((0 : Int) < (i : Int)) = false := by rw [hi0]; rfl
        have gin : decide (0 < i) = false := by rw [hi0]; rfl
        clear hprev hi0
        go_wp2_with fail
        rw [← unhide H4]
        refine (unhide HFIND).mono ?_
        rintro e w5 ⟨rfl, hw5⟩
        rw [hw5]
        clear hw5 w5
        go_wp2_with fail
        go_quiet (fail)
        go_wp2_with fail
        refine (unhide HREAD nq).mono ?_
        rintro e w6 ⟨⟨p6, c6, rfl, hr6⟩, hb6⟩
        have R6 := hide hr6; have B6 := hide hb6
        clear hr6 hb6
        obtain ⟨u0, u1, u2, u3⟩ := unhide H6 w6 (unhide B6)
        clear u2 u3
        go_wp2_with fail
        refine (unhide HSIZE w6 (unhide B6)).mono ?_
        rintro e w7 ⟨rfl, hb7⟩
        have B7 : Hid (Below w4.heap.size w4 w7) := (unhide B6).trans (hb7.mono (unhide B6).size)
        obtain ⟨v0, v1, v2, v3⟩ := unhide H6 w7 (unhide B7)
        have cv7 : ∀ n, (convert 27 9 (.slice p6 xl c6)).run Try.prog (w7.drewN n) = .ok (.string Tt) (w7.drewN n) := fun n => by
          have hr := own_below (unhide R6) hb7
          rw [unhide HTT, unhide HXL]
          rw [unhide HXL] at hr
          exact conv_row (row_far hr (fun q _ => rfl))
        clear hb7
        go_wp2_with fail
        go_quiet (first | (go_at_call 14; refine Calls.quiet_of_same (num_ok _ _ (by omega) (by omega))))
        go_wp2_with fail
        exact ⟨⟨i + 1, by omega, by go_num, by rw [unhide HTK]; simp, below_drewN ((unhide HBR).trans (((unhide HB4).trans ((unhide B7).mono (unhide HB4).size)).mono zr)) _⟩, by simp [intOf]; omega⟩
      · obtain ⟨ip, sp, hip, e1, e2⟩ := hprev hi0
        have gi : decide ((i : Int) > 0) = true := decide_eq_true (by omega)
        have gi' : decide ((0 : Int) < (i : Int)) = true := decide_eq_true (by omega)
        have gin : decide (0 < i) = true := decide_eq_true (by omega)
        have ip0 : (0 : Int) ≤ (ip : Int) := by omega
        have ip1 : (ip : Int) < (L : Int) := by omega
        clear hprev hi0
        go_wp2_with fail
        rw [← unhide H4]
        refine (unhide HFIND).mono ?_
        rintro e w5 ⟨rfl, hw5⟩
        rw [hw5]
        clear hw5 w5
        go_wp2_with fail
        go_quiet (fail)
        go_wp2_with fail
        refine (unhide HREAD nq).mono ?_
        rintro e w6 ⟨⟨p6, c6, rfl, hr6⟩, hb6⟩
        have R6 := hide hr6; have B6 := hide hb6
        clear hr6 hb6
        obtain ⟨u0, u1, u2, u3⟩ := unhide H6 w6 (unhide B6)
        clear u2 u3
        go_wp2_with fail
        refine (unhide HSIZE w6 (unhide B6)).mono ?_
        rintro e w7 ⟨rfl, hb7⟩
        have B7 : Hid (Below w4.heap.size w4 w7) := (unhide B6).trans (hb7.mono (unhide B6).size)
        obtain ⟨v0, v1, v2, v3⟩ := unhide H6 w7 (unhide B7)
        have cv7 : ∀ n, (convert 27 9 (.slice p6 xl c6)).run Try.prog (w7.drewN n) = .ok (.string Tt) (w7.drewN n) := fun n => by
          have hr := own_below (unhide R6) hb7
          rw [unhide HTT, unhide HXL]
          rw [unhide HXL] at hr
          exact conv_row (row_far hr (fun q _ => rfl))
        clear hb7
        go_wp2_with fail
        go_quiet (first | (go_at_call 14; refine Calls.quiet_of_same (num_ok _ _ (by omega) (by omega))))
        go_wp2_with fail
        exact ⟨⟨i + 1, by omega, by go_num, by rw [unhide HTK]; simp, below_drewN ((unhide HBR).trans (((unhide HB4).trans ((unhide B7).mono (unhide HB4).size)).mono zr)) _⟩, by simp [intOf]; omega⟩
    · have j1 : ¬ (i : Int) < (L : Int) := by omega
      have hiL : A.take i = A := List.take_of_length_le (by have := unhide HL; omega)
      rw [hiL]
      obtain ⟨TA, hTA⟩ : ∃ TA, TA = totF A := ⟨_, rfl⟩
      have HDr := (unhide HD).below (unhide BW)
      have HF : Hid (∀ P : Bel wr, Calls Try.prog 28 #[.pointer (some ⟨d, 0, none⟩)] P.W fun e w'' => e = .returned (.int .i64 (cap - (TA : Int))) ∧ ∃ q : Bel wr, w'' = q.W) := fun P => by
        obtain ⟨mo, nn, es, hDi⟩ := HDr.below P.h
        refine (free_ok hDi hc1 (by show 0 ≤ cap; omega) (by show totF A ≤ 1048576; omega)).mono ?_
        rintro e w' ⟨he, hb⟩
        exact ⟨by rw [hTA]; exact he, ⟨w', P.h.trans (hb.mono P.h.size)⟩, rfl⟩
      have HG : Hid (∀ P : Bel wr, Calls Try.prog 29 #[.pointer (some ⟨d, 0, none⟩)] P.W fun e w'' => e = .returned (.bool false) ∧ ∃ q : Bel wr, w'' = q.W) := fun P => by
        obtain ⟨mo, nn, es, hDi⟩ := HDr.below P.h
        refine (down_ok hDi).mono ?_
        rintro e w' ⟨he, rfl⟩
        exact ⟨he, P, rfl⟩
      have HN : Hid (∀ P : Bel wr, Calls Try.prog 14 #[.int .i64 0] P.W fun e w'' => e = .returned (.int .i64 0) ∧ ∃ q : Bel wr, w'' = q.W) := fun P => by
        refine (num_ok 0 P.W (by omega) (by omega)).mono ?_
        rintro e w' ⟨he, rfl⟩
        exact ⟨he, P, rfl⟩
      have c0 : ∀ P : Bel wr, P.W.cell? ⟨w1.heap.size, 0, none⟩ = some (.int .i64 cap) := fun P => keep1 P.h (by omega) s0
      have c3 : ∀ P : Bel wr, P.W.cell? ⟨w1.heap.size, 3, none⟩ = some (.bool false) := fun P => keep1 P.h (by omega) s3
      rw [← hTA] at ht ⊢
      have g1 : decide ((TA : Int) ≤ cap) = true := decide_eq_true ht
      have cc0 : (0 : Int) ≤ cap - (TA : Int) := by omega
      have cc1 : cap - (TA : Int) ≤ 1048576 := by omega
      have ew1 : IntKind.i64.wrap (cap - (TA : Int)) = cap - (TA : Int) := by rw [IntKind.wrap_i64]; omega
      have ew2 : wrap64 (cap - (TA : Int)) = cap - (TA : Int) := by unfold wrap64; omega
      clear hbr HDr hTA z1 z2 z3 zr hiL
      go_wp2_with fail
      refine wp_region_quiet_below (by kernel_rfl) (by kernel_rfl) ?_
      repeat (quiet_step (first | (go_at_call 28; refine unhide HF _) | (go_at_call 29; refine unhide HG _) | (go_at_call 14; refine unhide HN _)))
      refine wpQuiet_nil ?_
      rintro _ ⟨P, rfl⟩
      go_wp2_with fail
      go_ret
      exact ⟨rfl, (unhide BW).trans (P.h.mono (unhide BW).size)⟩
set_option maxRecDepth 100000 in
set_option maxHeartbeats 4000000 in
theorem shows_down {w : World} {d N : Nat} {S : Nat → Prop} {cap fu : Int} {A : Fs} (hD : DiskOK w d N ⟨cap, A, fu, true⟩ S) (hI : Inv ⟨cap, A, fu, true⟩) {U : Nat → Prop} {v : Value} {l : Fs} (hb : BookAt w U v l) (hp : l.Perm A) :
    Calls Try.prog 20 #[.pointer (some ⟨d, 0, none⟩), v] w fun e w' => e = .returned (.bool true) ∧ Below w.heap.size w w' := by
  obtain ⟨pa, ca, rfl⟩ := hb.form
  obtain ⟨L, hL⟩ : ∃ L, L = A.length := ⟨_, rfl⟩
  have hlL : l.length = L := by rw [hL]; exact hp.length_eq
  have hm : L ≤ 64 := by rw [hL]; exact hI.many
  have ht : (totF A : Int) ≤ cap := hI.tot
  have hc1 : cap ≤ 1048576 := hI.cap1
  have hnd : Hid ((l.map (·.1)).Nodup) := perm_nodup hp (ord_nodup hI.ord)
  rw [hlL] at hb ⊢
  have HBK := hide hb; have HD := hide hD; have HI := hide hI; have HP := hide hp; have HL := hide hL; have HLL := hide hlL
  clear hb hD hI hp hL hlL
  go_enter Try.func20, Try.ntmps20
  go_wp2_with fail
  obtain ⟨mo1, m1, es1, hD1⟩ := unhide HD
  refine (state_ok hD1 (unhide HI)).mono ?_
  rintro e w1 ⟨⟨v1, he1, fb1, hfb1, hfr1⟩, hb1⟩
  have hfr1 : FilesRow w1 fb1 w1.heap.size v1 A := hfr1
  obtain ⟨p1, c1, rfl⟩ := hfr1.form
  have he1 : e = .returned (.agg #[.int .i64 cap, .slice p1 A.length c1, .int .i64 fu, .bool true]) := he1
  subst he1
  rw [← unhide HL] at hfr1 ⊢
  have z1 := hb1.size
  have F1 := hide hfr1
  have B1 := hide hb1
  clear hfr1 hb1 hD1
  go_wp2_with fail
  obtain ⟨w2, hw2⟩ : ∃ w2, w2 = w1.alloc (.cells #[.int .i64 cap, .slice p1 L c1, .int .i64 fu, .bool true] 31) := ⟨_, rfl⟩
  have b2 : Below w1.heap.size w1 w2 := by rw [hw2]; exact bal (Below.refl _ _) _
  have z2 : w2.heap.size = w1.heap.size + 1 := by rw [hw2]; simp
  have a0 : w2.cell? ⟨w1.heap.size, 0, none⟩ = some (.int .i64 cap) := by rw [hw2, World.cell?_alloc_mark]; rfl
  have a1 : w2.cell? ⟨w1.heap.size, 1, none⟩ = some (.slice p1 L c1) := by rw [hw2, World.cell?_alloc_mark]; rfl
  have a3 : w2.cell? ⟨w1.heap.size, 3, none⟩ = some (.bool true) := by rw [hw2, World.cell?_alloc_mark]; rfl
  rw [← hw2]
  clear hw2
  have B2 : Hid (Below w.heap.size w w2) := (unhide B1).trans (b2.mono (unhide B1).size)
  have F2 := hide ((unhide F1).below (Nat.le_refl _) b2)
  clear b2
  obtain ⟨mo2, m2, es2, hD2⟩ := (unhide HD).below (unhide B2)
  refine (list_down hD2 rfl).mono ?_
  rintro e w3' ⟨rfl, hw3⟩
  rw [hw3]
  clear hw3 w3' hD2
  obtain ⟨w3, hw3⟩ : ∃ w3, w3 = w2 := ⟨_, rfl⟩
  rw [← hw3] at a0 a1 a3 B2 F2 ⊢
  have z3 : w2.heap.size ≤ w3.heap.size := by rw [hw3]; exact Nat.le_refl _
  clear hw3
  have q0 := a0; have q1 := a1; have q3 := a3
  have B3 := B2; have F3 := F2
  clear a0 a1 a3
  have Q0 := hide q0; have Q1 := hide q1; have Q3 := hide q3; have Z2 := hide z2; have Z1 := hide z1; have Z3 := hide z3
  clear q0 z2 z1 z3
  go_wp2_with fail
  go_loopw [6, 9] (fun un ui wr => ∃ i : Nat, i ≤ L ∧ ui = .int .i64 (i : Int) ∧ un = .int .i64 (totF (A.take i) : Int) ∧ Below w3.heap.size w3 wr) (fun _ u _ => L - (intOf u).toNat)
  case atStart => exact ⟨0, Nat.zero_le _, rfl, by simp [totF], Below.refl _ _⟩
  case round =>
    obtain ⟨i, hi, rfl, rfl, hbr⟩ := hrel
    have HBR := hide hbr
    have z1 := unhide Z1; have z2 := unhide Z2; have z3 := unhide Z3
    have zr := hbr.size
    have s1 := keep1 hbr (by omega) (unhide Q1)
    have s3 := keep1 hbr (by omega) (unhide Q3)
    have s0 := keep1 hbr (by omega) (unhide Q0)
    have BW : Hid (Below w.heap.size w wr) := (unhide B3).trans (hbr.mono (unhide B3).size)
    by_cases hlt : i < L
    · have hkx : ∃ k x, A[i]? = some (k, x) := by
        have : i < A.length := by rw [← unhide HL]; exact hlt
        exact ⟨_, _, List.getElem?_eq_getElem this⟩
      obtain ⟨k, x, hkx⟩ := hkx
      have hmem := List.mem_of_getElem? hkx
      have hnm : nameS ⟨k.toArray⟩ = true := (unhide HI).nm _ hmem
      have hget := get_at (unhide HI).ord hkx
      have hxl : x.bs.length ≤ 1048576 := by
        have h1 : x.bs.length ≤ totF A := get_le_tot hget
        omega
      have htk := tot_take_succ hkx
      have htl := tot_take_le A (i + 1)
      obtain ⟨gf, xf, pf, cf, b1', ev, lf, a0, a1, a2, ra⟩ := ((unhide F3).below (by omega) hbr).at hkx
      injection ev with ev eL ev3
      subst ev ev3
      clear eL
      obtain ⟨j, hj, hidx⟩ := idx_of (l := l) (x := x) 0 (((unhide HP).mem_iff).2 hmem) (unhide hnd)
      rw [Nat.zero_add] at hidx
      have hjL : j < L := by
        have h1 := (List.getElem?_eq_some_iff.1 hj).1
        have h2 := unhide HLL
        omega
      obtain ⟨s, hs, hsk⟩ : ∃ s : ByteArray, encStr k = .string s ∧ s.data.toList = k := ⟨_, rfl, rfl⟩
      have hnm : nameS s = true := by
        have : s = ⟨k.toArray⟩ := bytes_inj (by rw [hsk])
        rw [this]
        exact hnm
      have hsz : s.size ≤ maxLen := by have := nameS_size hnm; unfold maxLen; omega
      rw [hs] at a0
      obtain ⟨w4, hw4⟩ : ∃ w4, w4 = wr.alloc (.cells #[.string s, .slice pf x.bs.length cf, .int .i64 (x.sy : Int)] 70) := ⟨_, rfl⟩
      have b4 : Below wr.heap.size wr w4 := by rw [hw4]; exact bal (Below.refl _ _) _
      have z4 : w4.heap.size = wr.heap.size + 1 := by rw [hw4]; simp
      have f0 : w4.cell? ⟨wr.heap.size, 0, none⟩ = some (.string s) := by rw [hw4, World.cell?_alloc_mark]; rfl
      have f1 : w4.cell? ⟨wr.heap.size, 1, none⟩ = some (.slice pf x.bs.length cf) := by rw [hw4, World.cell?_alloc_mark]; rfl
      have f2 : w4.cell? ⟨wr.heap.size, 2, none⟩ = some (.int .i64 (x.sy : Int)) := by rw [hw4, World.cell?_alloc_mark]; rfl
      have s1' := keep1 b4 (by omega) s1
      have s3' := keep1 b4 (by omega) s3
      have e0 := keep1 b4 lf a0
      have BW4 : Hid (Below w.heap.size w w4) := (unhide BW).trans (b4.mono (unhide BW).size)
      have hbk4 := (unhide HBK).below (unhide BW4)
      have HFIND := find18_ok hbk4 (by have := unhide HLL; omega) s
      rw [hsk, hidx] at HFIND
      have HFIND := hide HFIND
      have hra4 := own_below ra b4
      rw [← unhide HLL] at hbk4
      obtain ⟨g, ca', pl, cl, eg, hgU, hg, n0, n1, n2, nf, rl, rlU⟩ := hbk4.at hj
      injection eg with eg eL eg3
      subst eg eg3
      clear eL
      obtain ⟨Tt, hT⟩ : ∃ Tt, Tt = txtB x.bs := ⟨_, rfl⟩
      have cv1n : ∀ n, (convert 27 9 (.slice pf x.bs.length cf)).run Try.prog (w4.drewN n) = .ok (.string Tt) (w4.drewN n) := fun n => by rw [hT]; exact conv_row (row_far hra4 (fun q _ => rfl))
      have cv2n : ∀ n, (convert 27 9 (.slice pl x.bs.length cl)).run Try.prog (w4.drewN n) = .ok (.string Tt) (w4.drewN n) := fun n => by rw [hT]; exact conv_row (row_far rl (fun q _ => rfl))
      have HRA4 := hide hra4; have HTT := hide hT
      obtain ⟨xl, hxld⟩ : ∃ xl, xl = x.bs.length := ⟨_, rfl⟩
      obtain ⟨xs, hxsd⟩ : ∃ xs : Int, xs = (x.sy : Int) := ⟨_, rfl⟩
      obtain ⟨T, hTd⟩ : ∃ T, T = totF (A.take i) := ⟨_, rfl⟩
      rw [← hxld] at a1 f1 n1 htk hxl cv1n cv2n hw4
      rw [← hxsd] at a2 f2 n2 hw4
      rw [← hTd] at htk ⊢
      have HTK := hide htk
      have g0 : decide ((j : Int) < 0) = false := by simp
      have i0 : (0 : Int) ≤ (i : Int) := by omega
      have i1 : (i : Int) < (L : Int) := by omega
      have j0 : (0 : Int) ≤ (j : Int) := by omega
      have j1 : (j : Int) < (L : Int) := by omega
      have t0 : (0 : Int) ≤ (T : Int) + (xl : Int) := by omega
      have t1 : (T : Int) + (xl : Int) ≤ 1048576 := by omega
      have H4 := hide hw4; have HB4 := hide b4; have Z4 := hide z4; have HXL := hide hxld
      have hprev : i ≠ 0 → ∃ ip sp, (i : Int) - 1 = ((ip : Nat) : Int) ∧ w4.cell? ⟨gf, ip * 3, none⟩ = some (.string sp) ∧ Op.bytesLess sp.toList s.toList = true := fun h0 => by
        have hip : i - 1 < A.length := by have := unhide HL; omega
        obtain ⟨k', x', hkx'⟩ : ∃ k' x', A[i - 1]? = some (k', x') := ⟨_, _, List.getElem?_eq_getElem hip⟩
        obtain ⟨g', _, _, _, _, ev', lf', a0', _⟩ := (((unhide F3).below (by omega) hbr).below (by omega) b4).at hkx'
        injection ev' with ev' _ _
        injection ev' with ev'
        injection ev' with ev'
        subst ev'
        refine ⟨i - 1, ⟨k'.toArray⟩, by omega, a0', before_less ?_⟩
        rw [hsk]
        have hO := (unhide HI).ord
        obtain ⟨h1, h2⟩ := List.getElem?_eq_some_iff.1 hkx'
        obtain ⟨h3, h4⟩ := List.getElem?_eq_some_iff.1 hkx
        have := List.pairwise_iff_getElem.1 hO (i - 1) i h1 h3 (by omega)
        rw [h2, h4] at this
        simpa using this
      clear hbr hmem hkx hget htk htl ra hidx hj b4 hra4 rl hT nf rlU hs hsk hw4 hxld hxsd hTd hbk4 hxl z4 z1 z2 z3 lf hg
      by_cases hi0 : i = 0
      · have gi : decide ((i : Int) > 0) = false := by rw [hi0]; rfl
        have gi' : decide ((0 : Int) < (i : Int)) = false := by rw [hi0]; rfl
        have gin : decide (0 < i) = false := by rw [hi0]; rfl
        clear hprev hi0
        go_wp2_with fail
        rw [← unhide H4]
        refine (unhide HFIND).mono ?_
        rintro e w5 ⟨rfl, hw5⟩
        rw [hw5]
        clear hw5 w5
        go_wp2_with fail
        go_quiet (fail)
        go_wp2_with fail
        exact ⟨⟨i + 1, by omega, by go_num, by rw [unhide HTK]; simp, below_drewN ((unhide HBR).trans ((unhide HB4).mono zr)) nq⟩, by simp [intOf]; omega⟩
      · obtain ⟨ip, sp, hip, e1, e2⟩ := hprev hi0
        have gi : decide ((i : Int) > 0) = true := decide_eq_true (by omega)
        have gi' : decide ((0 : Int) < (i : Int)) = true := decide_eq_true (by omega)
        have gin : decide (0 < i) = true := decide_eq_true (by omega)
        have ip0 : (0 : Int) ≤ (ip : Int) := by omega
        have ip1 : (ip : Int) < (L : Int) := by omega
        clear hprev hi0
        go_wp2_with fail
        rw [← unhide H4]
        refine (unhide HFIND).mono ?_
        rintro e w5 ⟨rfl, hw5⟩
        rw [hw5]
        clear hw5 w5
        go_wp2_with fail
        go_quiet (fail)
        go_wp2_with fail
        exact ⟨⟨i + 1, by omega, by go_num, by rw [unhide HTK]; simp, below_drewN ((unhide HBR).trans ((unhide HB4).mono zr)) nq⟩, by simp [intOf]; omega⟩
    · have j1 : ¬ (i : Int) < (L : Int) := by omega
      have hiL : A.take i = A := List.take_of_length_le (by have := unhide HL; omega)
      rw [hiL]
      obtain ⟨TA, hTA⟩ : ∃ TA, TA = totF A := ⟨_, rfl⟩
      have HDr := (unhide HD).below (unhide BW)
      have HF : Hid (∀ P : Bel wr, Calls Try.prog 28 #[.pointer (some ⟨d, 0, none⟩)] P.W fun e w'' => e = .returned (.int .i64 (cap - (TA : Int))) ∧ ∃ q : Bel wr, w'' = q.W) := fun P => by
        obtain ⟨mo, nn, es, hDi⟩ := HDr.below P.h
        refine (free_ok hDi hc1 (by show 0 ≤ cap; omega) (by show totF A ≤ 1048576; omega)).mono ?_
        rintro e w' ⟨he, hb⟩
        exact ⟨by rw [hTA]; exact he, ⟨w', P.h.trans (hb.mono P.h.size)⟩, rfl⟩
      have HG : Hid (∀ P : Bel wr, Calls Try.prog 29 #[.pointer (some ⟨d, 0, none⟩)] P.W fun e w'' => e = .returned (.bool true) ∧ ∃ q : Bel wr, w'' = q.W) := fun P => by
        obtain ⟨mo, nn, es, hDi⟩ := HDr.below P.h
        refine (down_ok hDi).mono ?_
        rintro e w' ⟨he, rfl⟩
        exact ⟨he, P, rfl⟩
      have HN : Hid (∀ P : Bel wr, Calls Try.prog 14 #[.int .i64 34] P.W fun e w'' => e = .returned (.int .i64 34) ∧ ∃ q : Bel wr, w'' = q.W) := fun P => by
        refine (num_ok 34 P.W (by omega) (by omega)).mono ?_
        rintro e w' ⟨he, rfl⟩
        exact ⟨he, P, rfl⟩
      have c0 : ∀ P : Bel wr, P.W.cell? ⟨w1.heap.size, 0, none⟩ = some (.int .i64 cap) := fun P => keep1 P.h (by omega) s0
      have c3 : ∀ P : Bel wr, P.W.cell? ⟨w1.heap.size, 3, none⟩ = some (.bool true) := fun P => keep1 P.h (by omega) s3
      rw [← hTA] at ht ⊢
      have g1 : decide ((TA : Int) ≤ cap) = true := decide_eq_true ht
      have cc0 : (0 : Int) ≤ cap - (TA : Int) := by omega
      have cc1 : cap - (TA : Int) ≤ 1048576 := by omega
      have ew1 : IntKind.i64.wrap (cap - (TA : Int)) = cap - (TA : Int) := by rw [IntKind.wrap_i64]; omega
      have ew2 : wrap64 (cap - (TA : Int)) = cap - (TA : Int) := by unfold wrap64; omega
      clear hbr HDr hTA z1 z2 z3 zr hiL
      go_wp2_with fail
      refine wp_region_quiet_below (by kernel_rfl) (by kernel_rfl) ?_
      repeat (quiet_step (first | (go_at_call 28; refine unhide HF _) | (go_at_call 29; refine unhide HG _) | (go_at_call 14; refine unhide HN _)))
      refine wpQuiet_nil ?_
      rintro _ ⟨P, rfl⟩
      go_wp2_with fail
      go_ret
      exact ⟨rfl, (unhide BW).trans (P.h.mono (unhide BW).size)⟩
end Go.Proofs.Ytpeohbkigkfcgaa
