/- Two disks side by side; a state that a disk told is valid: filesCanBe (53), valid (36). -/
import Derived.Test.YtpeohbkigkfcgaaLwB
namespace Go.Proofs.Ytpeohbkigkfcgaa
open Go Go.Shelf Go.ChangeShapes Go.WideShapes Go.ChangeAt Go.RowKit Go.Maps Go.Sort
set_option linter.unusedVariables false
/-- a disk that is down has no fuse -/
def DnF (K : Dk) : Prop := K.down = true → K.fuse = -1
theorem dn_chg {K : Dk} (h : DnF K) (er : Int) (A' : Fs) : DnF (chgK K er A').1 := by
  unfold chgK
  split
  · exact h
  · rename_i hd
    split
    · exact h
    · split
      · exact fun _ => rfl
      · exact fun h' => absurd h' hd
theorem dn_act {o : OpV} {K : Dk} (h : DnF K) : DnF (actK o K).1 := by
  unfold actK
  split
  · exact dn_chg h _ _
  · split
    · exact dn_chg h _ _
    · split
      · exact dn_chg h _ _
      · split
        · exact dn_chg h _ _
        · split
          · exact dn_chg h _ _
          · split
            · unfold fuseK
              split
              · exact h
              · split
                · exact h
                · rename_i hd
                  exact fun h' => absurd h' hd
            · split
              · exact fun _ => rfl
              · exact h
theorem map_far {W W' : World} {b n : Nat} {D : DataW Value} (h : W.ownsMap Try.prog 9 fileElem b n D) (hq : W'.heap[b]? = W.heap[b]?) : W'.ownsMap Try.prog 9 fileElem b n D := by
  obtain ⟨es, clock, hb, F, hs, hD⟩ := h
  exact ⟨es, clock, hq.trans hb, F, hs, hD⟩
theorem DiskIs.far {W W' : World} {d N n : Nat} {K : Dk} {S : Nat → Prop} {mo : Option Nat} {es : List (Lit × DataW Value)} (h : DiskIs W d N K S mo n es) (hq : ∀ q, S q → W'.heap[q]? = W.heap[q]?) (hz : W.heap.size ≤ W'.heap.size) : DiskIs W' d N K S mo n es :=
  ⟨⟨(World.cell?_of_block (a := ⟨d, 0, none⟩) (hq d h.sd)).trans h.at'.c0, (World.cell?_of_block (a := ⟨d, 1, none⟩) (hq d h.sd)).trans h.at'.c1, (World.cell?_of_block (a := ⟨d, 2, none⟩) (hq d h.sd)).trans h.at'.c2, (World.cell?_of_block (a := ⟨d, 3, none⟩) (hq d h.sd)).trans h.at'.c3, h.at'.files.imp id (fun ⟨b, h1, h2⟩ => ⟨b, h1, map_far h2 (hq b (h.mb b h1).2.1)⟩)⟩,
    h.fs.far (fun e he q hq' => hq q (h.eb e he q hq')), h.nle, h.mb, h.db, h.eb, fun j => (World.frozen?_of_block (a := ⟨d, j, none⟩) (hq d h.sd)).trans (h.fz j), h.sd, fun q hq' => Nat.lt_of_lt_of_le (h.sl q hq') hz⟩
/-- a disk stands while another one is changed -/
theorem DiskOK.sep {W W' : World} {t N : Nat} {K : Dk} {S S' T : Nat → Prop} (h : DiskOK W t N K T) (hs : Sep W W' S S') (hd : ∀ q, T q → ¬ S q) : DiskOK W' t N K T := by
  obtain ⟨mo, n, es, h⟩ := h
  exact ⟨mo, n, es, h.far (fun q hq => hs.block q (h.sl q hq) (hd q hq)) hs.size⟩
theorem DiskOK.sl {W : World} {t N : Nat} {K : Dk} {T : Nat → Prop} (h : DiskOK W t N K T) : ∀ q, T q → q < W.heap.size := by
  obtain ⟨mo, n, es, h⟩ := h
  exact h.sl
theorem Sep.apart {W W' : World} {S S' T : Nat → Prop} (hs : Sep W W' S S') (hd : ∀ q, T q → ¬ S q) (hl : ∀ q, T q → q < W.heap.size) : ∀ q, T q → ¬ S' q := fun q hq h' => by
  rcases hs.new q h' with h1 | h1
  · exact hd q hq h1
  · have := hl q hq
    omega
theorem less_before : ∀ a b : List UInt8, Op.bytesLess a b = bytesBefore a b
  | [], [] => rfl
  | [], _ :: _ => rfl
  | _ :: _, [] => rfl
  | a :: x, b :: y => by simp [Op.bytesLess, bytesBefore, less_before x y]
theorem less_no {s t : ByteArray} (h : bytesBefore t.data.toList s.data.toList = true) : Op.bytesLess s.toList t.toList = false ∧ (s.toList == t.toList) = false := by
  rw [ByteArray.toList_eq, ByteArray.toList_eq]
  refine ⟨by rw [less_before]; exact bytes_asymm h, ?_⟩
  simp only [beq_eq_false_iff_ne, ne_eq]
  intro e
  rw [e] at h
  have := bytes_asymm h
  rw [h] at this
  cases this
theorem name_some {s : ByteArray} (h : nameS s = true) : bytesBefore [] s.data.toList = true := by
  cases hl : s.data.toList with
  | cons a r => rfl
  | nil =>
    have : s = ⟨#[]⟩ := bytes_inj (by rw [hl])
    rw [this] at h
    exact absurd h (by decide)
theorem tot_take_succ {A : Fs} {j : Nat} {k : List UInt8} {x : Fl} (h : A[j]? = some (k, x)) : totF (A.take (j + 1)) = totF (A.take j) + x.bs.length := by
  rw [List.take_add_one, h]
  simp [totF]
theorem tot_append (A B : Fs) : totF (A ++ B) = totF A + totF B := by simp [totF]
theorem tot_take_le (A : Fs) (j : Nat) : totF (A.take j) ≤ totF A := by
  have h := tot_append (A.take j) (A.drop j)
  rw [List.take_append_drop] at h
  omega
/-- the name ahead of a place -/
def lastN (A : Fs) (j : Nat) : ByteArray := if j = 0 then ⟨#[]⟩ else match A[j - 1]? with
  | some p => ⟨p.1.toArray⟩
  | none => ⟨#[]⟩
theorem last_before {A : Fs} (hO : OrdF A) {j : Nat} {k : List UInt8} {x : Fl} (h : A[j]? = some (k, x)) (hn : nameS ⟨k.toArray⟩ = true) : bytesBefore (lastN A j).data.toList k = true := by
  unfold lastN
  by_cases h0 : j = 0
  · rw [if_pos h0]
    exact name_some hn
  · rw [if_neg h0]
    have hj : j < A.length := by
      rw [List.getElem?_eq_some_iff] at h
      exact h.1
    have h1 : A[j - 1]? = some A[j - 1] := List.getElem?_eq_getElem (by omega)
    rw [h1]
    have h2 := List.pairwise_iff_getElem.1 hO (j - 1) j (by omega) hj (by omega)
    have h3 : A[j] = (k, x) := by
      rw [List.getElem?_eq_getElem hj] at h
      exact Option.some.inj h
    rw [h3] at h2
    simpa using h2
set_option maxRecDepth 100000 in
set_option maxHeartbeats 4000000 in
theorem filesCan_ok {w : World} {v : Value} {cap fu : Int} {dn : Bool} {A : Fs} {b e : Nat} (h : FilesRow w b e v A) (he : e ≤ w.heap.size) (hI : Inv ⟨cap, A, fu, dn⟩) :
    Calls Try.prog 53 #[v, .int .i64 cap] w fun e w' => e = .returned (.bool true) ∧ Below w.heap.size w w' := by
  obtain ⟨pa, ca, rfl⟩ := h.form
  obtain ⟨L, hL⟩ : ∃ L, L = A.length := ⟨_, rfl⟩
  have hm : L ≤ 64 := by rw [hL]; exact hI.many
  have ht : (totF A : Int) ≤ cap := hI.tot
  have hc1 : cap ≤ 1048576 := hI.cap1
  rw [← hL] at h ⊢
  have HL := hide hL
  have HA := hide h; have HI := hide hI
  clear hL h hI
  have l0 : ¬ (64 : Int) < (L : Int) := by omega
  go_enter Try.func53, Try.ntmps53
  go_wp2_with fail
  go_loopw [1, 5, 13] (fun r s u wr => ∃ j : Nat, j ≤ L ∧ u = .int .i64 (j : Int) ∧ r = .int .i64 (cap - (totF (A.take j) : Int)) ∧ s = .string (lastN A j) ∧ Below w.heap.size w wr) (fun _ _ u _ => L - (intOf u).toNat)
  case atStart => exact ⟨0, Nat.zero_le _, rfl, by simp [totF], rfl, Below.refl _ _⟩
  case round =>
    obtain ⟨j, hj, rfl, rfl, rfl, hbr⟩ := hrel
    have HBR := hide hbr
    by_cases hlt : j < L
    · have hkx : ∃ k x, A[j]? = some (k, x) := by
        have : j < A.length := by rw [← unhide HL]; exact hlt
        exact ⟨_, _, List.getElem?_eq_getElem this⟩
      obtain ⟨k, x, hkx⟩ := hkx
      have hmem := List.mem_of_getElem? hkx
      have hnm : nameS ⟨k.toArray⟩ = true := (unhide HI).nm _ hmem
      have hsy : x.sy ≤ x.bs.length := (unhide HI).sy _ hmem
      have hlast := last_before (unhide HI).ord hkx hnm
      have htk := tot_take_succ hkx
      have htl := tot_take_le A (j + 1)
      obtain ⟨ga, xa, p1, c1, b1', ea, la, a0, a1, a2, ra⟩ := (unhide HA).at hkx
      injection ea with ea eL ea3
      subst ea ea3
      clear eL
      obtain ⟨s, hs⟩ : ∃ s : ByteArray, s = ⟨k.toArray⟩ := ⟨_, rfl⟩
      have a0 : w.cell? ⟨ga, j * 3, none⟩ = some (.string s) := by rw [hs]; exact a0
      rw [← hs] at hnm
      obtain ⟨hle, hle'⟩ := less_no (s := s) (t := lastN A j) (by rw [hs]; exact hlast)
      have hln : lastN A (j + 1) = s := by unfold lastN; rw [if_neg (by omega), Nat.add_sub_cancel, hkx, hs]
      have a0 := keep1 hbr la a0
      have a1 := keep1 hbr la a1
      have a2 := keep1 hbr la a2
      obtain ⟨T, hT⟩ : ∃ T, T = totF (A.take j) := ⟨_, rfl⟩
      obtain ⟨bl, hbl⟩ : ∃ bl, bl = x.bs.length := ⟨_, rfl⟩
      obtain ⟨sy, hsyd⟩ : ∃ sy : Int, sy = (x.sy : Int) := ⟨_, rfl⟩
      obtain ⟨la', hla'⟩ : ∃ la', la' = lastN A j := ⟨_, rfl⟩
      rw [← hsyd] at a2
      have hsy : sy ≤ (bl : Int) ∧ 0 ≤ sy := by omega
      rw [← hbl] at a1 htk
      rw [← hT] at htk ⊢
      rw [← hla'] at hle hle' ⊢
      have HTK := hide htk; have HLN := hide hln
      have hsz : s.size ≤ 9223372036854775807 := by have := nameS_size hnm; omega
      have i0 : (0 : Int) ≤ (j : Int) := by omega
      have i1 : (j : Int) < (L : Int) := by omega
      have y0 : ¬ sy < 0 := by omega
      have y1 : ¬ (bl : Int) < sy := by omega
      have y2 : ¬ cap - (T : Int) - (bl : Int) < 0 := by omega
      have y3 : cap - (T : Int) - (bl : Int) ≤ 1048576 := by omega
      clear hbr ra hkx hmem hlast hs hT hbl hsyd hla' htl htk hln hsy
      go_wp2_with fail
      obtain ⟨w4, hw4⟩ : ∃ w4, w4 = wr.alloc (.cells #[.string s, .slice p1 bl c1, .int .i64 sy] 70) := ⟨_, rfl⟩
      have b4 : Below wr.heap.size wr w4 := by rw [hw4]; exact bal (Below.refl _ _) _
      have z4 : w4.heap.size = wr.heap.size + 1 := by rw [hw4]; simp
      have q0 : w4.cell? ⟨wr.heap.size, 0, none⟩ = some (.string s) := by rw [hw4, World.cell?_alloc_mark]; rfl
      have q1 : w4.cell? ⟨wr.heap.size, 1, none⟩ = some (.slice p1 bl c1) := by rw [hw4, World.cell?_alloc_mark]; rfl
      have q2 : w4.cell? ⟨wr.heap.size, 2, none⟩ = some (.int .i64 sy) := by rw [hw4, World.cell?_alloc_mark]; rfl
      rw [← hw4]
      clear hw4
      refine (isName_any s hsz w4).mono ?_
      rintro e w5 ⟨rfl, hb5⟩
      rw [hnm]
      have r0 := keep1 hb5 (by omega) q0
      have r1 := keep1 hb5 (by omega) q1
      have r2 := keep1 hb5 (by omega) q2
      have B5 : Hid (Below w.heap.size w w5) := (unhide HBR).trans ((b4.trans (hb5.mono (by omega))).mono (unhide HBR).size)
      clear b4 hb5 q0 q1 q2
      go_wp2_with fail
      refine ⟨⟨j + 1, by omega, by go_num, ?_, ?_, unhide B5⟩, by simp [intOf]; omega⟩
      · rw [unhide HTK]
        congr 1
        omega
      · rw [unhide HLN]
    · have j1 : ¬ (j : Int) < (L : Int) := by omega
      clear hbr
      go_wp2_with fail
      go_ret
      exact ⟨rfl, unhide HBR⟩
set_option maxRecDepth 100000 in
set_option maxHeartbeats 4000000 in
theorem valid_ok {w : World} {v : Value} {cap fu : Int} {dn : Bool} {A : Fs} {b e : Nat} (h : FilesRow w b e v A) (he : e ≤ w.heap.size) (hI : Inv ⟨cap, A, fu, dn⟩) (hd : DnF ⟨cap, A, fu, dn⟩) :
    Calls Try.prog 36 #[.agg #[.int .i64 cap, v, .int .i64 fu, .bool dn]] w fun e w' => e = .returned (.bool true) ∧ Below w.heap.size w w' := by
  obtain ⟨pa, ca, rfl⟩ := h.form
  have hc : canBe 0 cap = true := by
    have h1 := hI.tot; have h2 := hI.cap1
    simp only at h1 h2
    simp [canBe]
    omega
  have hf : canBe (-1) fu = true := by
    have h1 := hI.fu0; have h2 := hI.fu1
    simp only at h1 h2
    simp [canBe]
    omega
  obtain ⟨w1, hw1⟩ : ∃ w1, w1 = w.alloc (.cells #[.int .i64 cap, .slice pa A.length ca, .int .i64 fu, .bool dn] 31) := ⟨_, rfl⟩
  have b1 : Below w.heap.size w w1 := by rw [hw1]; exact bal (Below.refl _ _) _
  have HF := hide (filesCan_ok (h.below he b1) (Nat.le_trans he b1.size) hI)
  have H1 := hide hw1; have B1 := hide b1
  clear hw1 b1 h hI
  cases dn with
  | false =>
    clear hd
    go_enter Try.func36, Try.ntmps36
    go_wp2_with (first | (go_at_call 39; refine (capacity_ok _ _).mono ?_; rintro e wn ⟨rfl, hw⟩; rw [hw, hc]; clear hw wn) | (go_at_call 52; refine (fuseCan_ok _ _).mono ?_; rintro e wn ⟨rfl, hw⟩; rw [hw, hf]; clear hw wn))
    rw [← unhide H1]
    refine (unhide HF).mono ?_
    rintro e w2 ⟨rfl, hb2⟩
    have B2 : Hid (Below w.heap.size w w2) := (unhide B1).trans (hb2.mono (unhide B1).size)
    clear hb2
    go_wp2_with fail
    go_ret
    exact ⟨rfl, unhide B2⟩
  | true =>
    have hfu : fu = -1 := hd rfl
    subst hfu
    clear hd
    go_enter Try.func36, Try.ntmps36
    go_wp2_with (first | (go_at_call 39; refine (capacity_ok _ _).mono ?_; rintro e wn ⟨rfl, hw⟩; rw [hw, hc]; clear hw wn) | (go_at_call 52; refine (fuseCan_ok _ _).mono ?_; rintro e wn ⟨rfl, hw⟩; rw [hw, hf]; clear hw wn))
    rw [← unhide H1]
    refine (unhide HF).mono ?_
    rintro e w2 ⟨rfl, hb2⟩
    have B2 : Hid (Below w.heap.size w w2) := (unhide B1).trans (hb2.mono (unhide B1).size)
    clear hb2
    go_wp2_with fail
    go_ret
    exact ⟨rfl, unhide B2⟩
end Go.Proofs.Ytpeohbkigkfcgaa
