import Derived.Test.YtpeohbkigkfcgabGreatDoorGAS
import Derived.Test.YtpeohbkigkfcgabGreatDoorGAQ
import Derived.Test.YtpeohbkigkfcgabGreatDoorGAR
import Derived.Test.YtpeohbkigkfcgabGreatDoorGAN
set_option linter.unusedVariables false
set_option linter.unusedSimpArgs false
set_option maxRecDepth 100000
set_option maxHeartbeats 16000000
namespace Go.Proofs.YtpeohbkigkfcgabGreatDoor
open Go Go.Shelf Go.ChangeShapes Go.WideShapes Go.ChangeAt Go.RowKit Go.Maps Go.Sort
theorem totV_bound {l : List FV} {C : Nat} (h : ∀ f ∈ l, f.bs.length <= C) : ∀ i, totV (l.take i) <= i * C
 | 0 => by simp [totV]
 | i + 1 => by
  have ih := totV_bound h i
  rw [Nat.succ_mul]
  cases hf : l[i]? with
  | none =>
   have : l.take (i + 1) = l.take i := by rw [List.take_add_one, hf]; simp
   rw [this]
   omega
  | some f =>
   rw [totV_take hf]
   have := h f (List.mem_of_getElem? hf)
   omega
theorem rbytes_in {w : World} (pa : Option Addr) (ca : Nat) (l : List FV) (hin : FilesIn w pa l) (hl : l.length <= 64) (hbl : ∀ f ∈ l, f.bs.length <= 140737488355328) (x y : Int) (b : Bool) :
  Calls Tryz.prog 205 #[.agg #[.int .i64 x, .slice pa l.length ca, .int .i64 y, .bool b]] w fun e w' => e = .returned (.int .i64 (totV l : Int)) /\ Below w.heap.size w w' := by
 have ht : ∀ i, totV (l.take i) <= i * 140737488355328 := fun i => totV_bound hbl i
 obtain ⟨L, hL⟩ : ∃ L, L = l.length := ⟨_, rfl⟩
 rw [<- hL] at hl ⊢
 obtain ⟨w1, hw1⟩ : ∃ w1, w1 = w.alloc (.cells #[.int .i64 x, .slice pa L ca, .int .i64 y, .bool b] 59) := ⟨_, rfl⟩
 have b1 : Below w.heap.size w w1 := by rw [hw1]; exact bal (Below.refl _ _) _
 have k1 : w1.cell? ⟨w.heap.size, 1, none⟩ = some (.slice pa L ca) := by rw [hw1, World.cell?_alloc_mark]; rfl
 have HA := hide (hin.below b1)
 have H1 := hide hw1; have B1 := hide b1; have HL := hide hL; have HTT := hide ht
 clear hw1 b1 hin hL ht hbl
 go_enter Tryz.func205, Tryz.ntmps205
 go_wp2_with fail
 rw [<- uh H1]
 go_loopw [3, 4] (fun un ui wr => ∃ i : Nat, i <= L /\ ui = .int .i64 (i : Int) /\ un = .int .i64 (totV (l.take i) : Int) /\ wr = w1) (fun _ u _ => L - (intOf u).toNat)
 case atStart => exact ⟨0, Nat.zero_le _, rfl, rfl, rfl⟩
 case round =>
  obtain ⟨i, hi, rfl, rfl, rfl⟩ := hrel
  by_cases hlt : i < L
  ·obtain ⟨f, hf⟩ : ∃ f, l[i]? = some f := ⟨_, List.getElem?_eq_getElem (by rw [<- uh HL]; exact hlt)⟩
   have htk := totV_take hf
   have hle := uh HTT (i + 1)
   obtain ⟨g, off, rfl, hcells⟩ := uh HA (List.ne_nil_of_mem (List.mem_of_getElem? hf))
   obtain ⟨pi, ci, a0, a1, a2, _⟩ := hcells i f hf
   obtain ⟨bl, hbl⟩ : ∃ bl, bl = f.bs.length := ⟨_, rfl⟩
   rw [<- hbl] at a1 htk
   have i0 : (0 : Int) <= (i : Int) := by omega
   have i1 : (i : Int) < (L : Int) := by omega
   obtain ⟨T, hT⟩ : ∃ T, T = totV (l.take i) := ⟨_, rfl⟩
   rw [<- hT] at htk ⊢
   have s0 : -9223372036854775808 <= (T : Int) + (bl : Int) := by omega
   have s1 : (T : Int) + (bl : Int) <= 9223372036854775807 := by omega
   have HTK := hide htk
   clear hf htk hle a0 a2 hcells hT hbl
   go_wp2_with fail
   refine ⟨⟨i + 1, by omega, by go_num, ?_, trivial⟩, by simp [intOf]; omega⟩
   rw [uh HTK]
   go_num
  ·have j1 : ¬ (i : Int) < (L : Int) := by omega
   have hd : l.take i = l := List.take_of_length_le (by rw [<- uh HL]; omega)
   rw [hd]
   clear hd
   go_wp2_with fail
   go_ret
   exact ⟨rfl, uh B1⟩
theorem less_le {s t : ByteArray} (h : Op.bytesLess t.toList s.toList = false) : bytesBefore t.data.toList s.data.toList = false := by
 rw [ByteArray.toList_eq, ByteArray.toList_eq, less_before] at h
 exact h
theorem less_up {s t : ByteArray} (h : Op.bytesLess t.toList s.toList = true) : bytesBefore t.data.toList s.data.toList = true := by
 rw [ByteArray.toList_eq, ByteArray.toList_eq, less_before] at h
 exact h
theorem name_first {s : ByteArray} (h : nameS s = true) (l : List FV) : bytesBefore (prevV l 0).data.toList s.data.toList = true := by
 unfold prevV
 rw [if_pos rfl]
 cases hl : s.data.toList with
 | cons a r => rfl
 | nil =>
  have : s.size = 0 := by
   have h1 : s.data.toList.length = 0 := by rw [hl]; rfl
   simpa using h1
  simp only [nameS, Bool.and_eq_true, decide_eq_true_eq] at h
  omega
theorem v_ok {cap fu : Int} {l : List FV} {dn : Bool} (h : okV l cap = false) : validV cap l fu dn = false := by unfold validV; rw [h, Bool.and_false]
theorem v_yes {cap fu : Int} {l : List FV} {dn : Bool} (h : okV l cap = true) (h0 : 0 <= cap) (h1 : cap <= 1048576) (h2 : -1 <= fu) (h3 : fu <= 1048576) (h4 : (!(dn && decide (fu ≠ -1))) = true) : validV cap l fu dn = true := by
 unfold validV canBe
 rw [h, h4, decide_eq_true h0, decide_eq_true h1, decide_eq_true h2, decide_eq_true h3]
 rfl
theorem rvalid_any {w : World} (cap fu : Int) (dn : Bool) (pa : Option Addr) (ca : Nat) (l : List FV) (hin : FilesIn w pa l) (hlm : l.length <= 9223372036854775807) (hnz : ∀ f ∈ l, f.nm.size <= 9223372036854775806) (hbl : ∀ f ∈ l, f.bs.length <= 140737488355328) :
  Calls Tryz.prog 195 #[.agg #[.int .i64 cap, .slice pa l.length ca, .int .i64 fu, .bool dn]] w fun e w' => e = .returned (.bool (validV cap l fu dn)) /\ Below w.heap.size w w' := by
 obtain ⟨L, hL⟩ : ∃ L, L = l.length := ⟨_, rfl⟩
 obtain ⟨w1, hw1⟩ : ∃ w1, w1 = w.alloc (.cells #[.int .i64 cap, .slice pa l.length ca, .int .i64 fu, .bool dn] 59) := ⟨_, rfl⟩
 have b1 : Below w.heap.size w w1 := by rw [hw1]; exact bal (Below.refl _ _) _
 have z1 : w1.heap.size = w.heap.size + 1 := by rw [hw1]; simp
 have k0 : ∀ P : Bel w1, P.W.cell? ⟨w.heap.size, 0, none⟩ = some (.int .i64 cap) := fun P => keep1 P.h (by omega) (by rw [hw1, World.cell?_alloc_mark]; rfl)
 have k1 : ∀ P : Bel w1, P.W.cell? ⟨w.heap.size, 1, none⟩ = some (.slice pa L ca) := fun P => keep1 P.h (by omega) (by rw [hw1, hL, World.cell?_alloc_mark]; rfl)
 have k2 : ∀ P : Bel w1, P.W.cell? ⟨w.heap.size, 2, none⟩ = some (.int .i64 fu) := fun P => keep1 P.h (by omega) (by rw [hw1, World.cell?_alloc_mark]; rfl)
 have k3 : ∀ P : Bel w1, P.W.cell? ⟨w.heap.size, 3, none⟩ = some (.bool dn) := fun P => keep1 P.h (by omega) (by rw [hw1, World.cell?_alloc_mark]; rfl)
 have BP : Hid (∀ P : Bel w1, Below w.heap.size w P.W) := fun P => b1.trans (P.h.mono b1.size)
 have HB0 : l.length <= 64 -> Hid (∀ P : Bel w1, Calls Tryz.prog 205 #[.agg #[.int .i64 cap, .slice pa L ca, .int .i64 fu, .bool dn]] P.W fun e w'' => e = .returned (.int .i64 (totV l : Int)) /\ ∃ q : Bel w1, w'' = q.W) := fun hl P => by
  rw [hL]
  exact (rbytes_in pa ca l ((hin.below b1).below P.h) hl hbl _ _ _).mono (fun e w' ⟨h1, h2⟩ => ⟨h1, ⟨w', P.h.trans (h2.mono P.h.size)⟩, rfl⟩)
 have hMx : l.length <= 64 -> totV l <= 9223372036854775807 := fun hl => by
  have this := totV_bound hbl l.length
  rw [List.take_length] at this
  omega
 have H1 := hide hw1
 have HL := hide hL
 have HIN := hide (hin.below b1); have HNZ := hide hnz; have HBL := hide hbl
 rw [<- hL] at H1 HB0 hMx hlm ⊢
 clear hw1 b1 hin hnz hbl
 by_cases x1 : cap < 0
 ·have hv : validV cap l fu dn = false := by unfold validV canBe; rw [decide_eq_false (by omega)]; rfl
  rw [hv]
  clear hv hL HB0 hMx
  go_enter Tryz.func195, Tryz.ntmps195
  go_wp2_with fail
  rw [<- uh H1]
  refine wp_region_quiet_below (by kernel_rfl) (by kernel_rfl) ?_
  repeat (quiet_step (fail))
  refine wpQuiet_nil ?_
  rintro _ ⟨P, rfl⟩
  go_wp2_with fail
  go_ret
  exact ⟨rfl, uh BP P⟩
 ·by_cases x2 : 1048576 < cap
  ·have hv : validV cap l fu dn = false := by unfold validV canBe; rw [decide_eq_false (p := cap <= 1048576) (by omega), Bool.and_false]; rfl
   rw [hv]
   clear hv hL HB0 hMx
   go_enter Tryz.func195, Tryz.ntmps195
   go_wp2_with fail
   rw [<- uh H1]
   refine wp_region_quiet_below (by kernel_rfl) (by kernel_rfl) ?_
   repeat (quiet_step (fail))
   refine wpQuiet_nil ?_
   rintro _ ⟨P, rfl⟩
   go_wp2_with fail
   go_ret
   exact ⟨rfl, uh BP P⟩
  ·by_cases x3 : (64 : Int) < (L : Int)
   ·have hv : validV cap l fu dn = false := by unfold validV; rw [ok_many (by omega), Bool.and_false]
    rw [hv]
    clear hv hL HB0 hMx
    go_enter Tryz.func195, Tryz.ntmps195
    go_wp2_with fail
    rw [<- uh H1]
    refine wp_region_quiet_below (by kernel_rfl) (by kernel_rfl) ?_
    repeat (quiet_step (fail))
    refine wpQuiet_nil ?_
    rintro _ ⟨P, rfl⟩
    go_wp2_with fail
    go_ret
    exact ⟨rfl, uh BP P⟩
   ·have HB := HB0 (by omega)
    have hTm := hMx (by omega)
    obtain ⟨T, hT⟩ : ∃ T, T = totV l := ⟨_, rfl⟩
    rw [<- hT] at HB hTm
    have HT := hide hT
    by_cases x4 : cap < (T : Int)
    ·have hv : validV cap l fu dn = false := by unfold validV; rw [ok_tot (i := l.length) (by rw [List.take_length, <- hT]; exact x4), Bool.and_false]
     rw [hv]
     clear hv hL HB0 hMx hT
     go_enter Tryz.func195, Tryz.ntmps195
     go_wp2_with fail
     rw [<- uh H1]
     refine wp_region_quiet_below (by kernel_rfl) (by kernel_rfl) ?_
     repeat (quiet_step (first | (go_at_call 205; refine uh HB _)))
     refine wpQuiet_nil ?_
     rintro _ ⟨P, rfl⟩
     go_wp2_with fail
     go_ret
     exact ⟨rfl, uh BP P⟩
    ·clear HB0 hMx hT hL
     by_cases y1 : fu < -1
     ·have hv : validV cap l fu dn = false := by unfold validV canBe; rw [decide_eq_false (p := -1 <= fu) (by omega)]; simp
      rw [hv]
      clear hv
      go_enter Tryz.func195, Tryz.ntmps195
      go_wp2_with fail
      rw [<- uh H1]
      refine wp_region_quiet_below (by kernel_rfl) (by kernel_rfl) ?_
      repeat (quiet_step (first | (go_at_call 205; refine uh HB _)))
      refine wpQuiet_nil ?_
      rintro _ ⟨P, rfl⟩
      go_wp2_with fail
      go_ret
      exact ⟨rfl, uh BP P⟩
     ·by_cases y2 : 1048576 < fu
      ·have hv : validV cap l fu dn = false := by unfold validV canBe; rw [decide_eq_false (p := fu <= 1048576) (by omega)]; simp
       rw [hv]
       clear hv
       go_enter Tryz.func195, Tryz.ntmps195
       go_wp2_with fail
       rw [<- uh H1]
       refine wp_region_quiet_below (by kernel_rfl) (by kernel_rfl) ?_
       repeat (quiet_step (first | (go_at_call 205; refine uh HB _)))
       refine wpQuiet_nil ?_
       rintro _ ⟨P, rfl⟩
       go_wp2_with fail
       go_ret
       exact ⟨rfl, uh BP P⟩
      ·by_cases y3 : dn = true /\ fu ≠ -1
       ·obtain ⟨rfl, hne⟩ := y3
        have hv : validV cap l fu true = false := by unfold validV; rw [decide_eq_true hne]; simp
        have hne2 : ¬ fu = -1 := hne
        have hne3 : (fu != -1) = true := by simpa using hne
        rw [hv]
        clear hv hne
        go_enter Tryz.func195, Tryz.ntmps195
        go_wp2_with fail
        rw [<- uh H1]
        refine wp_region_quiet_below (by kernel_rfl) (by kernel_rfl) ?_
        repeat (quiet_step (first | (go_at_call 205; refine uh HB _)))
        refine wpQuiet_nil ?_
        rintro _ ⟨P, rfl⟩
        go_wp2_with fail
        go_ret
        exact ⟨rfl, uh BP P⟩
       ·cases dn with
        | false =>
         clear y3
         go_enter Tryz.func195, Tryz.ntmps195
         go_wp2_with fail
         rw [<- uh H1]
         refine wp_region_quiet_below (by kernel_rfl) (by kernel_rfl) ?_
         repeat (quiet_step (first | (go_at_call 205; refine uh HB _)))
         refine wpQuiet_nil ?_
         rintro _ ⟨P, rfl⟩
         go_wp2_with fail
         go_loopw [3] (fun u wr => ∃ (j : Nat) (P : Bel w1), j <= L /\ u = .int .i64 (j : Int) /\ (∀ i, i < j -> stepV l i = true) /\ wr = P.W) (fun u _ => L - (intOf u).toNat)
         case atStart => exact ⟨0, P, Nat.zero_le _, rfl, fun i hi => by omega, rfl⟩
         case round =>
          clear P
          obtain ⟨j, P, hj, rfl, hall, rfl⟩ := hrel
          have HALL := hide hall
          by_cases hlt : j < L
          ·obtain ⟨f, hf⟩ : ∃ f, l[j]? = some f := ⟨_, List.getElem?_eq_getElem (by rw [<- uh HL]; exact hlt)⟩
           have hfm := List.mem_of_getElem? hf
           have hsz := uh HNZ f hfm
           obtain ⟨b, off, rfl, hcells⟩ := (uh HIN).below P.h (List.ne_nil_of_mem hfm)
           have k1' := k1 P
           obtain ⟨p1, c1, g0, g1, g2, gby⟩ := hcells j f hf
           have HF := hide hf
           have HJL : Hid (j < l.length) := by show _ < _; rw [<- uh HL]; exact hlt
           have HS1 : Hid (nameS f.nm = false -> validV cap l fu false = false) := fun h => v_ok (ok_step (uh HJL) (step_name (uh HF) h))
           have HS4 : Hid (f.sy < 0 -> validV cap l fu false = false) := fun h => v_ok (ok_step (uh HJL) (step_neg (uh HF) h))
           have HS5 : Hid ((f.bs.length : Int) < f.sy -> validV cap l fu false = false) := fun h => v_ok (ok_step (uh HJL) (step_much (uh HF) h))
           have HS2 : Hid (Op.bytesLess (prevV l j).toList f.nm.toList = false -> validV cap l fu false = false) := fun h => v_ok (ok_step (uh HJL) (step_ord (uh HF) (less_le h)))
           have HS7 : Hid (nameS f.nm = true -> ((0 < j -> Op.bytesLess (prevV l j).toList f.nm.toList = true)) -> 0 <= f.sy -> f.sy <= (f.bs.length : Int) -> ∀ i, i < j + 1 -> stepV l i = true) := fun h1 h2 h4 h5 i hi => by
            by_cases e : i = j
            ·subst e
             refine step_yes (uh HF) h1 ?_ h4 h5
             by_cases e0 : i = 0
             ·subst e0
              exact name_first h1 l
             ·exact less_up (h2 (by omega))
            ·exact uh HALL i (by omega)
           have hprev : ∀ i, j = i + 1 -> ∃ f', l[i]? = some f' /\ prevV l j = f'.nm := fun i e => by
            have hi : i < l.length := by have := uh HL; omega
            refine ⟨_, List.getElem?_eq_getElem hi, ?_⟩
            unfold prevV
            rw [if_neg (by omega), e, Nat.add_sub_cancel, List.getElem?_eq_getElem hi]
           have hcp : ∀ i, j = i + 1 -> P.W.cell? ⟨b, off + i * 3, none⟩ = some (.string (prevV l j)) := fun i e => by
            obtain ⟨f', h1, h2⟩ := hprev i e
            obtain ⟨_, _, h3, _⟩ := hcells i f' h1
            rw [h2]
            exact h3
           obtain ⟨s, bs, sy⟩ := f
           simp only at g0 g1 g2 hsz HS1 HS2 HS4 HS5 HS7
           obtain ⟨bl, hbl⟩ : ∃ bl, bl = bs.length := ⟨_, rfl⟩
           obtain ⟨la', hla'⟩ : ∃ la', la' = prevV l j := ⟨_, rfl⟩
           rw [<- hbl] at g1 HS5 HS7
           rw [<- hla'] at HS2 HS7 hcp
           have i0 : (0 : Int) <= (j : Int) := by omega
           have i1 : (j : Int) < (L : Int) := by omega
           obtain ⟨w4, hw4⟩ : ∃ w4, w4 = P.W.alloc (.cells #[.string s, .slice p1 bl c1, .int .i64 sy] 82) := ⟨_, rfl⟩
           have b4 : Below P.W.heap.size P.W w4 := by rw [hw4]; exact bal (Below.refl _ _) _
           have z4 : w4.heap.size = P.W.heap.size + 1 := by rw [hw4]; simp
           have q0 : w4.cell? ⟨P.W.heap.size, 0, none⟩ = some (.string s) := by rw [hw4, World.cell?_alloc_mark]; rfl
           have q1 : w4.cell? ⟨P.W.heap.size, 1, none⟩ = some (.slice p1 bl c1) := by rw [hw4, World.cell?_alloc_mark]; rfl
           have q2 : w4.cell? ⟨P.W.heap.size, 2, none⟩ = some (.int .i64 sy) := by rw [hw4, World.cell?_alloc_mark]; rfl
           have zP : w1.heap.size <= P.W.heap.size := P.h.size
           have hbl' : Below w1.heap.size w1 w4 := P.h.trans (b4.mono zP)
           have m1 : w4.cell? ⟨w.heap.size, 1, none⟩ = some (.slice (some ⟨b, off, none⟩) L ca) := keep1 b4 (by omega) k1'
           have HN := hide (rname_ok s hsz w4)
           have H4 := hide hw4
           have HBL4 := hide hbl'
           have HCP : Hid (∀ i, j = i + 1 -> w4.cell? ⟨b, off + i * 3, none⟩ = some (.string la')) := fun i e => by
            have h1 := hcp i e
            have h2 := World.block_lt_of_cell? P.W _ h1
            exact keep1 b4 h2 h1
           clear hall hcells gby hf hfm hbl hla' hprev hcp hbl' hw4 b4 k0 k1 k2 k3
           cases hnm : nameS s with
           | false =>
            go_wp2_with fail
            rw [<- uh H4]
            refine (uh HN).mono ?_
            rintro e wn ⟨rfl, hw⟩
            rw [hw, hnm]
            clear hw wn
            go_wp2_with fail
            go_ret
            rw [uh HS1 hnm]
            exact ⟨rfl, uh BP ⟨w4, uh HBL4⟩⟩
           | true =>
            by_cases t0 : sy < 0
            ·go_wp2_with fail
             rw [<- uh H4]
             refine (uh HN).mono ?_
             rintro e wn ⟨rfl, hw⟩
             rw [hw, hnm]
             clear hw wn
             go_wp2_with fail
             go_ret
             rw [uh HS4 t0]
             exact ⟨rfl, uh BP ⟨w4, uh HBL4⟩⟩
            ·by_cases t1 : (bl : Int) < sy
             ·go_wp2_with fail
              rw [<- uh H4]
              refine (uh HN).mono ?_
              rintro e wn ⟨rfl, hw⟩
              rw [hw, hnm]
              clear hw wn
              go_wp2_with fail
              go_ret
              rw [uh HS5 t1]
              exact ⟨rfl, uh BP ⟨w4, uh HBL4⟩⟩
             ·by_cases j0 : j = 0
              ·have j00 : ¬ (0 : Int) < (j : Int) := by omega
               have j01 : ¬ 0 < j := by omega
               have HNX := hide (uh HS7 hnm (fun h => by omega) (by omega) (by omega))
               clear j0
               go_wp2_with fail
               rw [<- uh H4]
               refine (uh HN).mono ?_
               rintro e wn ⟨rfl, hw⟩
               rw [hw, hnm]
               clear hw wn
               go_wp2_with fail
               go_region
               go_wp2_with fail
               exact ⟨⟨j + 1, ⟨w4.drew, below_drewN (uh HBL4) 1⟩, by omega, by go_num, uh HNX, rfl⟩, by simp [intOf]; omega⟩
              ·obtain ⟨i, hi⟩ : ∃ i, j = i + 1 := ⟨j - 1, by omega⟩
               have j00 : (0 : Int) < (j : Int) := by omega
               have j01 : 0 < j := by omega
               have j1e : (0 : Int) <= (j : Int) - 1 := by omega
               have j2e : (j : Int) - 1 < (L : Int) := by omega
               have j3e : ((j : Int) - 1).toNat = i := by omega
               have j7e : -9223372036854775808 <= (j : Int) - 1 := by omega
               have j8e : (j : Int) - 1 <= 9223372036854775807 := by omega
               have j4e : (1 : Int) <= (j : Int) := by omega
               have j5e : 1 <= j := by omega
               have j6e : j - 1 = i := by omega
               have m2 := uh HCP i hi
               clear hi j0
               cases hle : Op.bytesLess la'.toList s.toList with
               | false =>
                go_wp2_with fail
                rw [<- uh H4]
                refine (uh HN).mono ?_
                rintro e wn ⟨rfl, hw⟩
                rw [hw, hnm]
                clear hw wn
                go_wp2_with fail
                go_region
                all_goals go_wp2_with fail
                all_goals go_ret
                all_goals rw [uh HS2 hle]
                all_goals exact ⟨rfl, uh BP ⟨w4.drew, below_drewN (uh HBL4) 1⟩⟩
               | true =>
                have HNX := hide (uh HS7 hnm (fun _ => hle) (by omega) (by omega))
                go_wp2_with fail
                rw [<- uh H4]
                refine (uh HN).mono ?_
                rintro e wn ⟨rfl, hw⟩
                rw [hw, hnm]
                clear hw wn
                go_wp2_with fail
                go_region
                all_goals go_wp2_with fail
                all_goals exact ⟨⟨j + 1, ⟨w4.drew, below_drewN (uh HBL4) 1⟩, by omega, by go_num, uh HNX, rfl⟩, by simp [intOf]; omega⟩
          ·have j1 : ¬ (j : Int) < (L : Int) := by omega
           have k1' := k1 P
           have hy : validV cap l fu false = true := v_yes (ok_all (by rw [<- uh HL]; omega) (by rw [<- uh HT]; omega) (fun i hi => hall i (by have := uh HL; omega))) (by omega) (by omega) (by omega) (by omega) (by simp)
           have HY := hide hy
           clear hall hy
           go_wp2_with fail
           go_ret
           rw [uh HY]
           exact ⟨rfl, uh BP P⟩
        | true =>
         have hfu : fu = -1 := by
          by_cases e : fu = -1
          ·exact e
          ·exact absurd ⟨rfl, e⟩ y3
         subst hfu
         clear y3
         go_enter Tryz.func195, Tryz.ntmps195
         go_wp2_with fail
         rw [<- uh H1]
         refine wp_region_quiet_below (by kernel_rfl) (by kernel_rfl) ?_
         repeat (quiet_step (first | (go_at_call 205; refine uh HB _)))
         refine wpQuiet_nil ?_
         rintro _ ⟨P, rfl⟩
         go_wp2_with fail
         go_loopw [3] (fun u wr => ∃ (j : Nat) (P : Bel w1), j <= L /\ u = .int .i64 (j : Int) /\ (∀ i, i < j -> stepV l i = true) /\ wr = P.W) (fun u _ => L - (intOf u).toNat)
         case atStart => exact ⟨0, P, Nat.zero_le _, rfl, fun i hi => by omega, rfl⟩
         case round =>
          clear P
          obtain ⟨j, P, hj, rfl, hall, rfl⟩ := hrel
          have HALL := hide hall
          by_cases hlt : j < L
          ·obtain ⟨f, hf⟩ : ∃ f, l[j]? = some f := ⟨_, List.getElem?_eq_getElem (by rw [<- uh HL]; exact hlt)⟩
           have hfm := List.mem_of_getElem? hf
           have hsz := uh HNZ f hfm
           obtain ⟨b, off, rfl, hcells⟩ := (uh HIN).below P.h (List.ne_nil_of_mem hfm)
           have k1' := k1 P
           obtain ⟨p1, c1, g0, g1, g2, gby⟩ := hcells j f hf
           have HF := hide hf
           have HJL : Hid (j < l.length) := by show _ < _; rw [<- uh HL]; exact hlt
           have HS1 : Hid (nameS f.nm = false -> validV cap l (-1) true = false) := fun h => v_ok (ok_step (uh HJL) (step_name (uh HF) h))
           have HS4 : Hid (f.sy < 0 -> validV cap l (-1) true = false) := fun h => v_ok (ok_step (uh HJL) (step_neg (uh HF) h))
           have HS5 : Hid ((f.bs.length : Int) < f.sy -> validV cap l (-1) true = false) := fun h => v_ok (ok_step (uh HJL) (step_much (uh HF) h))
           have HS2 : Hid (Op.bytesLess (prevV l j).toList f.nm.toList = false -> validV cap l (-1) true = false) := fun h => v_ok (ok_step (uh HJL) (step_ord (uh HF) (less_le h)))
           have HS7 : Hid (nameS f.nm = true -> ((0 < j -> Op.bytesLess (prevV l j).toList f.nm.toList = true)) -> 0 <= f.sy -> f.sy <= (f.bs.length : Int) -> ∀ i, i < j + 1 -> stepV l i = true) := fun h1 h2 h4 h5 i hi => by
            by_cases e : i = j
            ·subst e
             refine step_yes (uh HF) h1 ?_ h4 h5
             by_cases e0 : i = 0
             ·subst e0
              exact name_first h1 l
             ·exact less_up (h2 (by omega))
            ·exact uh HALL i (by omega)
           have hprev : ∀ i, j = i + 1 -> ∃ f', l[i]? = some f' /\ prevV l j = f'.nm := fun i e => by
            have hi : i < l.length := by have := uh HL; omega
            refine ⟨_, List.getElem?_eq_getElem hi, ?_⟩
            unfold prevV
            rw [if_neg (by omega), e, Nat.add_sub_cancel, List.getElem?_eq_getElem hi]
           have hcp : ∀ i, j = i + 1 -> P.W.cell? ⟨b, off + i * 3, none⟩ = some (.string (prevV l j)) := fun i e => by
            obtain ⟨f', h1, h2⟩ := hprev i e
            obtain ⟨_, _, h3, _⟩ := hcells i f' h1
            rw [h2]
            exact h3
           obtain ⟨s, bs, sy⟩ := f
           simp only at g0 g1 g2 hsz HS1 HS2 HS4 HS5 HS7
           obtain ⟨bl, hbl⟩ : ∃ bl, bl = bs.length := ⟨_, rfl⟩
           obtain ⟨la', hla'⟩ : ∃ la', la' = prevV l j := ⟨_, rfl⟩
           rw [<- hbl] at g1 HS5 HS7
           rw [<- hla'] at HS2 HS7 hcp
           have i0 : (0 : Int) <= (j : Int) := by omega
           have i1 : (j : Int) < (L : Int) := by omega
           obtain ⟨w4, hw4⟩ : ∃ w4, w4 = P.W.alloc (.cells #[.string s, .slice p1 bl c1, .int .i64 sy] 82) := ⟨_, rfl⟩
           have b4 : Below P.W.heap.size P.W w4 := by rw [hw4]; exact bal (Below.refl _ _) _
           have z4 : w4.heap.size = P.W.heap.size + 1 := by rw [hw4]; simp
           have q0 : w4.cell? ⟨P.W.heap.size, 0, none⟩ = some (.string s) := by rw [hw4, World.cell?_alloc_mark]; rfl
           have q1 : w4.cell? ⟨P.W.heap.size, 1, none⟩ = some (.slice p1 bl c1) := by rw [hw4, World.cell?_alloc_mark]; rfl
           have q2 : w4.cell? ⟨P.W.heap.size, 2, none⟩ = some (.int .i64 sy) := by rw [hw4, World.cell?_alloc_mark]; rfl
           have zP : w1.heap.size <= P.W.heap.size := P.h.size
           have hbl' : Below w1.heap.size w1 w4 := P.h.trans (b4.mono zP)
           have m1 : w4.cell? ⟨w.heap.size, 1, none⟩ = some (.slice (some ⟨b, off, none⟩) L ca) := keep1 b4 (by omega) k1'
           have HN := hide (rname_ok s hsz w4)
           have H4 := hide hw4
           have HBL4 := hide hbl'
           have HCP : Hid (∀ i, j = i + 1 -> w4.cell? ⟨b, off + i * 3, none⟩ = some (.string la')) := fun i e => by
            have h1 := hcp i e
            have h2 := World.block_lt_of_cell? P.W _ h1
            exact keep1 b4 h2 h1
           clear hall hcells gby hf hfm hbl hla' hprev hcp hbl' hw4 b4 k0 k1 k2 k3
           cases hnm : nameS s with
           | false =>
            go_wp2_with fail
            rw [<- uh H4]
            refine (uh HN).mono ?_
            rintro e wn ⟨rfl, hw⟩
            rw [hw, hnm]
            clear hw wn
            go_wp2_with fail
            go_ret
            rw [uh HS1 hnm]
            exact ⟨rfl, uh BP ⟨w4, uh HBL4⟩⟩
           | true =>
            by_cases t0 : sy < 0
            ·go_wp2_with fail
             rw [<- uh H4]
             refine (uh HN).mono ?_
             rintro e wn ⟨rfl, hw⟩
             rw [hw, hnm]
             clear hw wn
             go_wp2_with fail
             go_ret
             rw [uh HS4 t0]
             exact ⟨rfl, uh BP ⟨w4, uh HBL4⟩⟩
            ·by_cases t1 : (bl : Int) < sy
             ·go_wp2_with fail
              rw [<- uh H4]
              refine (uh HN).mono ?_
              rintro e wn ⟨rfl, hw⟩
              rw [hw, hnm]
              clear hw wn
              go_wp2_with fail
              go_ret
              rw [uh HS5 t1]
              exact ⟨rfl, uh BP ⟨w4, uh HBL4⟩⟩
             ·by_cases j0 : j = 0
              ·have j00 : ¬ (0 : Int) < (j : Int) := by omega
               have j01 : ¬ 0 < j := by omega
               have HNX := hide (uh HS7 hnm (fun h => by omega) (by omega) (by omega))
               clear j0
               go_wp2_with fail
               rw [<- uh H4]
               refine (uh HN).mono ?_
               rintro e wn ⟨rfl, hw⟩
               rw [hw, hnm]
               clear hw wn
               go_wp2_with fail
               go_region
               go_wp2_with fail
               exact ⟨⟨j + 1, ⟨w4.drew, below_drewN (uh HBL4) 1⟩, by omega, by go_num, uh HNX, rfl⟩, by simp [intOf]; omega⟩
              ·obtain ⟨i, hi⟩ : ∃ i, j = i + 1 := ⟨j - 1, by omega⟩
               have j00 : (0 : Int) < (j : Int) := by omega
               have j01 : 0 < j := by omega
               have j1e : (0 : Int) <= (j : Int) - 1 := by omega
               have j2e : (j : Int) - 1 < (L : Int) := by omega
               have j3e : ((j : Int) - 1).toNat = i := by omega
               have j7e : -9223372036854775808 <= (j : Int) - 1 := by omega
               have j8e : (j : Int) - 1 <= 9223372036854775807 := by omega
               have j4e : (1 : Int) <= (j : Int) := by omega
               have j5e : 1 <= j := by omega
               have j6e : j - 1 = i := by omega
               have m2 := uh HCP i hi
               clear hi j0
               cases hle : Op.bytesLess la'.toList s.toList with
               | false =>
                go_wp2_with fail
                rw [<- uh H4]
                refine (uh HN).mono ?_
                rintro e wn ⟨rfl, hw⟩
                rw [hw, hnm]
                clear hw wn
                go_wp2_with fail
                go_region
                all_goals go_wp2_with fail
                all_goals go_ret
                all_goals rw [uh HS2 hle]
                all_goals exact ⟨rfl, uh BP ⟨w4.drew, below_drewN (uh HBL4) 1⟩⟩
               | true =>
                have HNX := hide (uh HS7 hnm (fun _ => hle) (by omega) (by omega))
                go_wp2_with fail
                rw [<- uh H4]
                refine (uh HN).mono ?_
                rintro e wn ⟨rfl, hw⟩
                rw [hw, hnm]
                clear hw wn
                go_wp2_with fail
                go_region
                all_goals go_wp2_with fail
                all_goals exact ⟨⟨j + 1, ⟨w4.drew, below_drewN (uh HBL4) 1⟩, by omega, by go_num, uh HNX, rfl⟩, by simp [intOf]; omega⟩
          ·have j1 : ¬ (j : Int) < (L : Int) := by omega
           have k1' := k1 P
           have hy : validV cap l (-1) true = true := v_yes (ok_all (by rw [<- uh HL]; omega) (by rw [<- uh HT]; omega) (fun i hi => hall i (by have := uh HL; omega))) (by omega) (by omega) (by omega) (by omega) (by simp)
           have HY := hide hy
           clear hall hy
           go_wp2_with fail
           go_ret
           rw [uh HY]
           exact ⟨rfl, uh BP P⟩
theorem StCells.note {W : World} {b e : Nat} {A : Fs} {xs : List Value} (h : StCells W b e A xs) : NoteC W (fun q => b <= q /\ q < e) A xs := by
 induction h with
 | nil _ => intro i k x hi; simp at hi
 | cons hr hl hb hs ih =>
  intro i k' x' hi
  match i, hi with
  | 0, hi =>
   simp only [List.getElem?_cons_zero, Option.some.injEq, Prod.mk.injEq] at hi
   obtain ⟨rfl, rfl⟩ := hi
   exact ⟨_, _, rfl, rfl, rfl, row_base hr (Nat.zero_le _), fun q hq => ⟨(hr.lt q hq).1, Nat.lt_of_lt_of_le (hl q hq) hs.le⟩⟩
  | i + 1, hi =>
   simp only [List.getElem?_cons_succ] at hi
   obtain ⟨p, c, h1, h2, h3, h4, h5⟩ := ih i k' x' hi
   refine ⟨p, c, ?_, ?_, ?_, h4, fun q hq => ⟨Nat.le_trans hb (h5 q hq).1, (h5 q hq).2⟩⟩
   ·rw [show (i + 1) * 3 = i * 3 + 1 + 1 + 1 by omega]; exact h1
   ·rw [show (i + 1) * 3 + 1 = i * 3 + 1 + 1 + 1 + 1 by omega]; exact h2
   ·rw [show (i + 1) * 3 + 2 = i * 3 + 2 + 1 + 1 + 1 by omega]; exact h3
theorem FilesRow.book {W : World} {b e : Nat} {v : Value} {A : Fs} (h : FilesRow W b e v A) (he : e <= W.heap.size) : BookAt W (fun q => b <= q /\ q < W.heap.size) v A := by
 obtain ⟨xs, hr, hs⟩ := h
 refine ⟨xs, row_base hr (Nat.zero_le _), fun i k x hi => ?_, fun q hq => hr.lt q hq, fun q hq => hq.2⟩
 obtain ⟨p, c, h1, h2, h3, h4, h5⟩ := hs.note i k x hi
 exact ⟨p, c, h1, h2, h3, h4, fun q hq => ⟨(h5 q hq).1, Nat.lt_of_lt_of_le (h5 q hq).2 he⟩⟩
theorem rfrom_is {w : World} {b : Nat} {v : Value} {A : Fs} (h : FilesRow w b w.heap.size v A) (x f : Int) (d : Bool) : RefIs (w.alloc (.cells #[.int .i64 x, v, .int .i64 f, .bool d] 92)) w.heap.size ⟨x, A, f, d⟩ (fun q => (b <= q /\ q < w.heap.size) \/ q = w.heap.size) (fun q => b <= q /\ q < w.heap.size) v :=
 ⟨by simp, by simp, by simp, by simp, fun j => by simp, (h.book (Nat.le_refl _)).below (bal (Below.refl _ _) _), fun q hq => .inl hq, fun hq => by omega, .inr rfl, fun q hq => by rw [World.size_alloc]; rcases hq with hq | hq <;> omega⟩
theorem rfrom_no {w : World} (cap fu : Int) (dn : Bool) (pa : Option Addr) (ca : Nat) (l : List FV) (hin : FilesIn w pa l) (hlm : l.length <= 9223372036854775807) (hnz : ∀ f ∈ l, f.nm.size <= 9223372036854775806) (hbl : ∀ f ∈ l, f.bs.length <= 140737488355328) (hv : validV cap l fu dn = false) :
  Calls Tryz.prog 93 #[.agg #[.int .i64 cap, .slice pa l.length ca, .int .i64 fu, .bool dn]] w fun e w' => e = .returned (.tuple #[.pointer none, .int .i64 35]) /\ Below w.heap.size w w' := by
 obtain ⟨w1, hw1⟩ : ∃ w1, w1 = w.alloc (.cells #[.int .i64 cap, .slice pa l.length ca, .int .i64 fu, .bool dn] 59) := ⟨_, rfl⟩
 have b1 : Below w.heap.size w w1 := by rw [hw1]; exact bal (Below.refl _ _) _
 have HV := hide (rvalid_any cap fu dn pa ca l (hin.below b1) hlm hnz hbl)
 rw [hv] at HV
 have B1 := hide b1
 have H1 := hide hw1
 obtain ⟨L, hL⟩ : ∃ L, L = l.length := ⟨_, rfl⟩
 rw [<- hL] at HV H1 ⊢
 clear hw1 b1 hin hnz hbl hL hv hlm
 go_enter Tryz.func93, Tryz.ntmps93
 go_wp2_with fail
 rw [<- uh H1]
 refine (uh HV).mono ?_
 rintro e w2 ⟨rfl, hb2⟩
 have B2 : Hid (Below w.heap.size w w2) := (uh B1).trans (hb2.mono (uh B1).size)
 clear hb2
 go_wp2_with fail
 go_ret2
 exact ⟨rfl, uh B2⟩
theorem rfrom_yes {w : World} (cap fu : Int) (dn : Bool) (pa : Option Addr) (ca : Nat) (l : List FV) (hin : FilesIn w pa l) (hlm : l.length <= 9223372036854775807) (hnz : ∀ f ∈ l, f.nm.size <= 9223372036854775806) (hbl : ∀ f ∈ l, f.bs.length <= 140737488355328) (hv : validV cap l fu dn = true) :
  Calls Tryz.prog 93 #[.agg #[.int .i64 cap, .slice pa l.length ca, .int .i64 fu, .bool dn]] w fun e w' => ∃ r, e = .returned (.tuple #[.pointer (some ⟨r, 0, none⟩), .int .i64 0]) /\ ∃ V, RefOK w' r ⟨cap, l.map FV.fl, fu, dn⟩ V /\ (∀ q, V q -> w.heap.size <= q) /\ Below w.heap.size w w' := by
 obtain ⟨hI, hdn, hc0, hok⟩ := valid_inv hv
 obtain ⟨hm0, htot, hsteps⟩ := ok_parts hok
 obtain ⟨w1, hw1⟩ : ∃ w1, w1 = w.alloc (.cells #[.int .i64 cap, .slice pa l.length ca, .int .i64 fu, .bool dn] 59) := ⟨_, rfl⟩
 have b1 : Below w.heap.size w w1 := by rw [hw1]; exact bal (Below.refl _ _) _
 have z1 : w1.heap.size = w.heap.size + 1 := by rw [hw1]; simp
 have HV := hide (rvalid_any cap fu dn pa ca l (hin.below b1) hlm hnz hbl)
 rw [hv] at HV
 have hcap := hI.cap1
 have HC : Hid (∀ w2, Below w1.heap.size w1 w2 -> Calls Tryz.prog 49 #[.agg #[.int .i64 cap, .slice pa l.length ca, .int .i64 fu, .bool dn]] w2 fun e w' => (∃ v, e = .returned (.agg #[.int .i64 cap, v, .int .i64 fu, .bool dn]) /\ ∃ b, w2.heap.size <= b /\ FilesRow w' b w'.heap.size v (l.map FV.fl)) /\ Below w2.heap.size w2 w') := fun w2 hb2 => by
  refine rcopied_ok cap fu dn pa ca l ((hin.below b1).below hb2) hm0 (fun f hf => ?_) (fun f hf => ?_)
  ·obtain ⟨i, hi, he⟩ := List.getElem_of_mem hf
   have h0 : l[i]? = some f := by rw [List.getElem?_eq_getElem hi, he]
   have h1 := totV_take h0
   have h2 := totV_le l (i + 1)
   simp only at hcap
   omega
  ·obtain ⟨i, hi, he⟩ := List.getElem_of_mem hf
   have h0 : l[i]? = some f := by rw [List.getElem?_eq_getElem hi, he]
   exact (step_at h0 (hsteps i hi)).2.2.1
 have k0 : w1.cell? ⟨w.heap.size, 0, none⟩ = some (.int .i64 cap) := by rw [hw1, World.cell?_alloc_mark]; rfl
 have k1 : w1.cell? ⟨w.heap.size, 1, none⟩ = some (.slice pa l.length ca) := by rw [hw1, World.cell?_alloc_mark]; rfl
 have k2 : w1.cell? ⟨w.heap.size, 2, none⟩ = some (.int .i64 fu) := by rw [hw1, World.cell?_alloc_mark]; rfl
 have k3 : w1.cell? ⟨w.heap.size, 3, none⟩ = some (.bool dn) := by rw [hw1, World.cell?_alloc_mark]; rfl
 have B1 := hide b1
 have H1 := hide hw1
 obtain ⟨A, hA⟩ : ∃ A, A = l.map FV.fl := ⟨_, rfl⟩
 rw [<- hA] at HC ⊢
 obtain ⟨L, hL⟩ : ∃ L, L = l.length := ⟨_, rfl⟩
 rw [<- hL] at HV H1 HC k1 ⊢
 clear hw1 b1 hin hnz hbl hL hv hlm hI hdn hc0 hok hm0 htot hsteps hcap hA
 go_enter Tryz.func93, Tryz.ntmps93
 go_wp2_with fail
 rw [<- uh H1]
 refine (uh HV).mono ?_
 rintro e w2 ⟨rfl, hb2⟩
 have q0 := keep1 hb2 (by omega) k0
 have q1 := keep1 hb2 (by omega) k1
 have q2 := keep1 hb2 (by omega) k2
 have q3 := keep1 hb2 (by omega) k3
 have z2 : w1.heap.size <= w2.heap.size := hb2.size
 have HC2 := hide (uh HC w2 hb2)
 have B2 : Hid (Below w.heap.size w w2) := (uh B1).trans (hb2.mono (uh B1).size)
 clear hb2 k0 k1 k2 k3
 go_wp2_with (first | (go_at_call 49; refine (uh HC2).mono ?_; rintro e w3 ⟨⟨v3, rfl, hfr⟩, hb3⟩; obtain ⟨b, hb, hfr⟩ := hfr; obtain ⟨p3, c3, hv3⟩ := hfr.shape; obtain ⟨m3, hm3⟩ : ∃ m3, m3 = A.length := ⟨_, rfl⟩; rw [<- hm3] at hv3; clear hm3; subst hv3; have B3 : Hid (Below w.heap.size w w3) := (uh B2).trans (hb3.mono (by omega)); have z3 : w2.heap.size <= w3.heap.size := hb3.size; have HF := hide hfr; clear hb3 hfr q0 q1 q2 q3))
 go_ret2
 refine ⟨_, rfl, _, ⟨_, _, rfrom_is (uh HF) cap fu dn⟩, fun q hq => ?_, (uh B3).trans ((bal (Below.refl _ _) _).mono (uh B3).size)⟩
 rcases hq with hq | hq <;> omega
end Go.Proofs.YtpeohbkigkfcgabGreatDoor
namespace Go.Proofs.YtpeohbkigkfcgabGreatDoor
open Go Go.ChangeShapes Go.WideShapes Go.ChangeAt Go.RowKit
theorem bcs_cells (bs : List UInt8) : bcs bs = Kp.bcells (fun j => (bs[j]?.getD 0).toNat) bs.length := by
 apply List.ext_getElem?
 intro j
 by_cases hj : j < bs.length
 ·rw [Kp.bcells_get _ _ _ hj]
  simp [bcs, hj]
 ·rw [List.getElem?_eq_none (by simp [bcs]; omega), List.getElem?_eq_none (by rw [Kp.bcells_len]; omega)]
theorem scells_len (f : Nat -> ByteArray) (n : Nat) : (Kt.scells f n).length = n := by simp [Kt.scells]
theorem enc_cells (l : List (List UInt8)) : l.map encStr = Kt.scells (fun j => ⟨(l[j]?.getD []).toArray⟩) l.length := by
 apply List.ext_getElem?
 intro j
 by_cases hj : j < l.length
 ·rw [Kt.scells_get _ _ _ hj]
  simp [encStr, hj]
 ·rw [List.getElem?_eq_none (by simp; omega), List.getElem?_eq_none (by rw [scells_len]; omega)]
theorem StCells.fcells {W : World} {b e : Nat} {A : Fs} {xs : List Value} (h : StCells W b e A xs) : ∃ F, xs = Kf.fcells F A.length := by
 have hl := h.len
 have hf : ∀ i, ∃ fe : Kf.FE, i < A.length -> ∀ c, c < 3 -> xs[i * 3 + c]? = fe.cells[c]? := by
  intro i
  by_cases hi : i < A.length
  ·obtain ⟨⟨k, x⟩, hx⟩ : ∃ y, A[i]? = some y := ⟨_, List.getElem?_eq_getElem hi⟩
   obtain ⟨p, c, b', h0, h1, h2, _⟩ := h.at hx
   refine ⟨⟨⟨k.toArray⟩, p, x.bs.length, c, (x.sy : Int)⟩, fun _ c' hc' => ?_⟩
   match c', hc' with
   | 0, _ => exact h0
   | 1, _ => exact h1
   | 2, _ => exact h2
  ·exact ⟨⟨⟨#[]⟩, none, 0, 0, 0⟩, fun h => absurd h hi⟩
 refine ⟨fun i => (hf i).choose, ?_⟩
 apply List.ext_getElem?
 intro j
 by_cases hj : j < A.length * 3
 ·have e : j = j / 3 * 3 + j % 3 := by omega
  rw [e, Kf.fcells_get _ (j % 3) (by omega) _ (j / 3) (by omega)]
  exact (hf (j / 3)).choose_spec (by omega) (j % 3) (by omega)
 ·rw [List.getElem?_eq_none (by omega), List.getElem?_eq_none (by rw [Kf.fcells_len]; omega)]
structure TookR (w w' : World) (bk : Nat) (U U' : Nat -> Prop) (b e : Nat) : Prop where
 size : w.heap.size <= w'.heap.size
 os : w'.os = w.os
 tape : w'.tape = w.tape
 output : w'.output = w.output
 low : ∀ j, j < 6 -> w'.cell? ⟨bk, j, none⟩ = w.cell? ⟨bk, j, none⟩
 block : ∀ q, q < w.heap.size -> q ≠ bk -> ¬ U q -> ¬ (b <= q /\ q < e) -> w'.heap[q]? = w.heap[q]?
 new : ∀ q, U' q -> U q \/ (b <= q /\ q < e) \/ w.heap.size <= q
theorem TookR.refl (w : World) (bk : Nat) (U : Nat -> Prop) (b e : Nat) : TookR w w bk U U b e := ⟨Nat.le_refl _, rfl, rfl, rfl, fun _ _ => rfl, fun _ _ _ _ _ => rfl, fun _ h => .inl h⟩
theorem TookR.next {w w1 w2 : World} {bk : Nat} {U U1 U2 : Nat -> Prop} {b e : Nat} {L : Value} (h : TookR w w1 bk U U1 b e) (k : Took w1 w2 bk U1 U2 L) (hL : ∀ q, L.ownBlock = some q -> b <= q /\ q < e) : TookR w w2 bk U U2 b e := by
 refine ⟨Nat.le_trans h.size k.size, k.os.trans h.os, k.tape.trans h.tape, k.output.trans h.output, fun j hj => (k.low j hj).trans (h.low j hj), fun q h1 h2 h3 h4 => ?_, fun q hq => ?_⟩
 ·refine (k.block q (Nat.lt_of_lt_of_le h1 h.size) h2 (fun e => ?_) (fun e => h4 (hL q e))).trans (h.block q h1 h2 h3 h4)
  rcases h.new q e with h' | h' | h'
  ·exact h3 h'
  ·exact h4 h'
  ·omega
 ·rcases k.new q hq with h' | h' | h'
  ·exact h.new q h'
  ·exact .inr (.inl (hL q h'))
  ·exact .inr (.inr (Nat.le_trans h.size h'))
theorem TookR.below {w w1 w2 : World} {bk : Nat} {U U2 : Nat -> Prop} {b e : Nat} (hb : Below w.heap.size w w1) (hbk : bk < w.heap.size) (h : TookR w1 w2 bk U U2 b e) : TookR w w2 bk U U2 b e :=
 ⟨Nat.le_trans hb.size h.size, h.os.trans hb.os, h.tape.trans hb.tape, h.output.trans hb.output, fun j hj => (h.low j hj).trans (World.cell?_of_block (hb.block bk hbk)), fun q h1 h2 h3 h4 => (h.block q (Nat.lt_of_lt_of_le h1 hb.size) h2 h3 h4).trans (hb.block q h1), fun q hq => by
  rcases h.new q hq with h' | h' | h'
  ·exact .inl h'
  ·exact .inr (.inl h')
  ·exact .inr (.inr (Nat.le_trans hb.size h'))⟩
def PJ (w0 : World) (bk b e : Nat) (A : Fs) (v : Value) (xs : List Value) (U : Nat -> Prop) (j : Nat) (wr : World) : Prop :=
 ∃ m Ur, b <= m /\ StCells wr m e (A.drop j) (xs.drop (j * 3)) /\ wr.ownsRow b 82 3 v A.length xs /\ KB wr bk Ur /\ TookR w0 wr bk U Ur b e /\ ∀ q, Ur q -> U q \/ (b <= q /\ q < m /\ v.ownBlock ≠ some q) \/ w0.heap.size <= q
theorem PJ.box {w0 wr : World} {bk b e j : Nat} {A : Fs} {v : Value} {xs : List Value} {U : Nat -> Prop} (h : PJ w0 bk b e A v xs U j wr) {sb : Nat} (h1 : sb < w0.heap.size) (h2 : sb ≠ bk) (h3 : ¬ U sb) (h4 : e <= sb) (i : Nat) : wr.cell? ⟨sb, i, none⟩ = w0.cell? ⟨sb, i, none⟩ := by
 obtain ⟨m, Ur, _, _, _, _, hT, _⟩ := h
 exact World.cell?_of_block (hT.block sb h1 h2 h3 (fun e => by omega))
theorem PJ.open {w0 wr : World} {bk b e j : Nat} {A : Fs} {pv : Option Addr} {cv : Nat} {xs : List Value} {U : Nat -> Prop} (h : PJ w0 bk b e A (.slice pv A.length cv) xs U j wr) (hve : ∀ q, (Value.slice pv A.length cv).ownBlock = some q -> q < e) (hb : ∀ q, b <= q -> q < e -> q ≠ bk /\ q ≠ 0 /\ ¬ U q) (he : e <= w0.heap.size) (hx : ∀ p ∈ A, p.2.bs.length <= 1048576) (hlt : j < A.length) :
  ∃ g p n c f, pv = some ⟨g, 0, none⟩ /\ wr.cell? ⟨g, j * 3 + 1, none⟩ = some (.slice p n c) /\ ∃ Ur, KB wr bk Ur /\ wr.ownsRow 0 5 1 (.slice p n c) n (Kp.bcells f n) /\ n <= 1048576 /\ (∀ q, (Value.slice p n c).ownBlock = some q -> q ≠ bk /\ q ≠ 0 /\ ¬ Ur q) /\
   ∀ w2 U2, KB w2 bk U2 -> Took wr w2 bk Ur U2 (.slice p n c) -> PJ w0 bk b e A (.slice pv A.length cv) xs U (j + 1) w2 := by
 obtain ⟨m, Ur, hbm, hst, hrow, hK, hT, hU⟩ := h
 obtain ⟨y, hy⟩ : ∃ y, A.drop j = y :: A.drop (j + 1) := ⟨A[j], List.drop_eq_getElem_cons hlt⟩
 have hmem : y ∈ A := List.mem_of_mem_drop (i := j) (by rw [hy]; exact List.mem_cons_self)
 obtain ⟨ys, hys⟩ : ∃ ys, ys = xs.drop (j * 3) := ⟨_, rfl⟩
 rw [<- hys, hy] at hst
 cases hst with
 | @cons _ m' _ k x p c _ xs' hr hl hbm' hs =>
  have e1 : xs[j * 3 + 1]? = some (.slice p x.bs.length c) := by
   have h1 := congrArg (fun l => l[1]?) hys
   simp only [List.getElem?_cons_succ, List.getElem?_cons_zero, List.getElem?_drop] at h1
   exact h1.symm
  have e2 : xs.drop ((j + 1) * 3) = xs' := by
   have h1 := congrArg (List.drop 3) hys
   simp only [List.drop_succ_cons, List.drop_zero, List.drop_drop] at h1
   rw [h1]
   congr 1
   omega
  have hg : ∃ g, pv = some ⟨g, 0, none⟩ := by
   rcases hrow.2 with ⟨h1, h2⟩ | ⟨g, cap, cur, h1, _⟩
   ·omega
   ·injection h1 with h1 _ _
    exact ⟨g, h1⟩
  obtain ⟨g, rfl⟩ := hg
  have hrm := hrow.lt g rfl
  have hge := hve g rfl
  have hL : ∀ q, (Value.slice p x.bs.length c).ownBlock = some q -> m <= q /\ q < m' /\ q < e /\ q ≠ g := fun q hq => ⟨(hr.lt q hq).1, hl q hq, Nat.lt_of_lt_of_le (hl q hq) hs.le, fun e' => rows_apart hr hrow (by decide) hq (by rw [e']; rfl)⟩
  have hnU : ∀ q, m <= q -> q < e -> ¬ Ur q := fun q h1 h2 h3 => by
   rcases hU q h3 with h' | h' | h'
   ·exact (hb q (by omega) h2).2.2 h'
   ·omega
   ·omega
  have hgU : ¬ Ur g := fun h3 => by
   rcases hU g h3 with h' | h' | h'
   ·exact (hb g hrm.1 hge).2.2 h'
   ·exact h'.2.2 rfl
   ·omega
  refine ⟨g, p, x.bs.length, c, _, rfl, ?_, Ur, hK, by rw [<- bcs_cells]; exact row_base hr (Nat.zero_le _), hx _ hmem, fun q hq => ⟨(hb q (by have := hL q hq; omega) (hL q hq).2.2.1).1, (hb q (by have := hL q hq; omega) (hL q hq).2.2.1).2.1, hnU q (hL q hq).1 (hL q hq).2.2.1⟩, fun w2 U2 hK2 hT2 => ?_⟩
  ·rw [hrow.cellAt (j * 3 + 1) (by omega)]
   exact e1
  ·refine ⟨m', U2, by omega, ?_, row_far hrow (fun q hq => ?_), hK2, hT.next hT2 (fun q hq => ⟨by have := hL q hq; omega, (hL q hq).2.2.1⟩), fun q hq => ?_⟩
   ·rw [e2]
    refine hs.far (fun q h1 h2 _ => hT2.block q (by have := hT.size; omega) (hb q (by omega) h2).1 (hnU q (by omega) h2) (fun e' => by have := hL q e'; omega))
   ·injection hq with hq
    have hq : g = q := hq
    subst hq
    exact hT2.block g (by have := hT.size; omega) (hb g hrm.1 hge).1 hgU (fun e' => (hL g e').2.2.2 rfl)
   ·rcases hT2.new q hq with h' | h' | h'
    ·rcases hU q h' with h'' | h'' | h''
     ·exact .inl h''
     ·exact .inr (.inl ⟨h''.1, by omega, h''.2.2⟩)
     ·exact .inr (.inr h'')
    ·have h9 := hL q h'
     exact .inr (.inl ⟨by omega, h9.2.1, fun e' => h9.2.2.2 (by injection e' with e'; exact e'.symm)⟩)
    ·exact .inr (.inr (Nat.le_trans hT.size h'))
theorem PJ.last {w0 wr : World} {bk b e j : Nat} {A : Fs} {v : Value} {xs : List Value} {U : Nat -> Prop} (h : PJ w0 bk b e A v xs U j wr) (hve : ∀ q, v.ownBlock = some q -> q < e) (hb : ∀ q, b <= q -> q < e -> q ≠ bk /\ q ≠ 0 /\ ¬ U q) (he : e <= w0.heap.size) (hF : ∃ F, xs = Kf.fcells F A.length) :
  ∃ F Ur, KB wr bk Ur /\ wr.ownsRow 0 82 3 v A.length (Kf.fcells F A.length) /\ (∀ q, v.ownBlock = some q -> q ≠ bk /\ q ≠ 0 /\ ¬ Ur q) /\ ∀ w2 U2, KB w2 bk U2 -> Took wr w2 bk Ur U2 v -> TookR w0 w2 bk U U2 b e := by
 obtain ⟨m, Ur, hbm, hst, hrow, hK, hT, hU⟩ := h
 obtain ⟨F, rfl⟩ := hF
 have hv : ∀ q, v.ownBlock = some q -> b <= q /\ q < e := fun q hq => ⟨(hrow.lt q hq).1, hve q hq⟩
 refine ⟨F, Ur, hK, row_base hrow (Nat.zero_le _), fun q hq => ⟨(hb q (hv q hq).1 (hv q hq).2).1, (hb q (hv q hq).1 (hv q hq).2).2.1, fun h3 => ?_⟩, fun w2 U2 hK2 hT2 => hT.next hT2 hv⟩
 rcases hU q h3 with h' | h' | h'
 ·exact (hb q (hv q hq).1 (hv q hq).2).2.2 h'
 ·exact h'.2.2 hq
 ·have := hv q hq; omega
end Go.Proofs.YtpeohbkigkfcgabGreatDoor
namespace Go.Proofs.YtpeohbkigkfcgabGreatDoor
open Go Go.ChangeShapes Go.WideShapes Go.ChangeAt Go.RowKit
attribute [local go_sem] setCell_drewN alloc_drewN
theorem PJ.cellAt {w0 wr : World} {bk b e j g : Nat} {A : Fs} {n cv : Nat} {xs : List Value} {U : Nat -> Prop} (h : PJ w0 bk b e A (.slice (some ⟨g, 0, none⟩) n cv) xs U j wr) (i : Nat) (hi : i < A.length * 3) : wr.cell? ⟨g, i, none⟩ = xs[i]? := by
 obtain ⟨m, Ur, _, _, hrow, _⟩ := h
 have hn : n = A.length := by
  rcases hrow.2 with ⟨h1, _⟩ | ⟨g, cap, cur, h1, _⟩
  ·cases h1
  ·injection h1
 subst hn
 exact hrow.cellAt i hi
theorem KB.drew {w : World} {bk : Nat} {U : Nat -> Prop} (h : KB w bk U) : KB w.drew bk U := h.below (Below.refl _ _).drew
theorem Took.undrew {w w' : World} {bk : Nat} {U U' : Nat -> Prop} {L : Value} (h : Took w.drew w' bk U U' L) : Took w w' bk U U' L := ⟨h.size, h.os, h.tape, h.output, h.low, h.block, h.new⟩
theorem pstate_write {w : World} {bk : Nat} {U : Nat -> Prop} (h : KB w bk U) {b e : Nat} {v : Value} {A : Fs} (hv : FilesRow w b e v A) (hA : A.length <= 64) (hx : ∀ p ∈ A, p.2.bs.length <= 1048576) (hve : ∀ q, v.ownBlock = some q -> q < e) (he : e <= w.heap.size) (hb : ∀ q, b <= q -> q < e -> q ≠ bk /\ q ≠ 0 /\ ¬ U q) (cp fu : Int) (dn : Bool) :
  Calls Tryz.prog 121 #[.pointer (some ⟨bk, 0, none⟩), .agg #[.int .i64 cp, v, .int .i64 fu, .bool dn], .bool true] w fun r w' => r = .returned (.tuple #[]) /\ ∃ U', KB w' bk U' /\ TookR w w' bk U U' b e := by
 obtain ⟨pv, cv, hvv⟩ := hv.shape
 obtain ⟨xs, hrow, hst⟩ := hv
 have hbkl := h.lt
 have HSB : Hid (¬ U w.heap.size) := fun hq => by have := (h.ul _ hq).2.2; omega
 have HJ : Hid (∀ o, PJ (w.alloc o) bk b e A v xs U 0 (w.alloc o)) := fun o => ⟨b, U, Nat.le_refl _, by simpa using hst.far (fun q _ hq _ => Below.heap_alloc _ _ _ (Nat.lt_of_lt_of_le hq he)), hrow.alloc o, h.below (bal (Below.refl _ _) o), TookR.refl _ _ _ _ _, fun q hq => .inl hq⟩
 have HVE := hide hve
 have HB := hide hb
 have HX := hide hx
 have HF := hide hst.fcells
 have hlen : ((A.length : Nat) : Int) <= 64 := by omega
 subst hvv
 clear h hrow hst hve hb hx
 go_enter Tryz.func121, Tryz.ntmps121
 go_wp2_with fail
 obtain ⟨w0, hw0⟩ : ∃ w0, w0 = w.alloc (.cells #[.int .i64 cp, .slice pv A.length cv, .int .i64 fu, .bool dn] 59) := ⟨_, rfl⟩
 have c0 : w0.cell? ⟨w.heap.size, 1, none⟩ = some (.slice pv A.length cv) := by rw [hw0]; simp
 have HJ0 : Hid (PJ w0 bk b e A (.slice pv A.length cv) xs U 0 w0) := by rw [hw0]; exact uh HJ _
 have HB0 : Hid (Below w.heap.size w w0) := by rw [hw0]; exact bal (Below.refl _ _) _
 have hz0 : w0.heap.size = w.heap.size + 1 := by rw [hw0]; simp
 rw [<- hw0]
 clear HJ hw0
 go_loopw [6] (fun i wr => ∃ (j : Nat), j <= A.length /\ i = .int .i64 (j : Int) /\ PJ w0 bk b e A (.slice pv A.length cv) xs U j wr) (fun i _ => A.length - (intOf i).toNat)
 case atStart => exact ⟨0, by omega, rfl, uh HJ0⟩
 case round =>
  obtain ⟨j, hj, rfl, hJ⟩ := hrel
  have l1 : wr.cell? ⟨w.heap.size, 1, none⟩ = some (.slice pv A.length cv) := (hJ.box (by omega) (by omega) (uh HSB) he 1).trans c0
  have C0 := hide c0
  clear c0
  by_cases hlt : j < A.length
  ·obtain ⟨g, p, n, c, f, hpv, l2, Ur, hK, hown, hle, hL, hnx⟩ := hJ.open (uh HVE) (uh HB) (by omega) (uh HX) hlt
   subst hpv
   have E1 := hide ((hJ.cellAt (j * 3 + 1) (by omega)).symm.trans l2)
   have hcl := hide ((KB.drew hK).writeB (w := wr.drew) hown hle hL)
   have HNX := hide hnx
   have hI : (j : Int) < (A.length : Int) := by omega
   have hI0 : (0 : Int) <= (j : Int) := by omega
   clear hJ hK hown hle hL hnx
   go_wp2_with fail
   refine wp_region_last (n := 10) (S := fun W => W.cell? ⟨w.heap.size, 1, none⟩ = some (.slice (some ⟨g, 0, none⟩) A.length cv) /\ W.cell? ⟨g, j * 3 + 1, none⟩ = some (.slice p n c)) (by kernel_rfl) (by first | (exact ⟨l1, l2⟩)) (fun hHeld => ?_)
   refine tkW 0 ?_; refine tkW 1 ?_; refine tkW 2 ?_; refine tkW 3 ?_; refine tkN 4 ?_; refine tkW 5 ?_; refine tkW 6 ?_; refine tkW 7 ?_; refine tkN 8 ?_
   refine wpAnyL_one (i := 9) (by kernel_rfl) rfl (fun KK hK => ?_)
   go_simp
   go_at_call 112
   refine (uh hcl).mono ?_
   rintro r w2 ⟨rfl, U2, hK2, hT2⟩
   have HJ2 := hide (uh HNX w2 U2 hK2 hT2.undrew)
   have m1 : w2.cell? ⟨w.heap.size, 1, none⟩ = some (.slice (some ⟨g, 0, none⟩) A.length cv) := ((uh HJ2).box (by omega) (by omega) (uh HSB) he 1).trans (uh C0)
   have m2 : w2.cell? ⟨g, j * 3 + 1, none⟩ = some (.slice p n c) := ((uh HJ2).cellAt (j * 3 + 1) (by omega)).trans (uh E1)
   clear hK2 hT2
   refine hK.out _ _ (by first | (exact ⟨m1, m2⟩)) (fun hHeld => ?_)
   clear hK KK
   refine wpAnyL_done (by kernel_rfl) ?_
   go_wp2_with fail
   exact ⟨⟨j + 1, by omega, by go_num, uh HJ2⟩, by simp [intOf]; omega⟩
  ·have hjm : j = A.length := by omega
   have hI : ¬ (j : Int) < (A.length : Int) := by omega
   obtain ⟨F, Ur, hK, hown, hL, hnx⟩ := hJ.last (uh HVE) (uh HB) (by omega) (uh HF)
   have hcl := hide ((KB.drew hK).writeF (w := wr.drew) hown hA hL)
   have HNX := hide hnx
   clear hJ hK hown hL hnx
   go_wp2_with fail
   refine wp_region_last (n := 5) (S := fun W => W.cell? ⟨w.heap.size, 1, none⟩ = some (.slice pv A.length cv)) (by kernel_rfl) (by first | (exact l1)) (fun hHeld => ?_)
   refine tkW 0 ?_; refine tkW 1 ?_; refine tkW 2 ?_; refine tkW 3 ?_; refine tkS 4 ?_
   refine wpAnyL_end (i := 5) (by kernel_rfl) rfl (by kernel_rfl) (by kernel_rfl) (fun KK hK => ?_)
   go_simp
   go_at_call 215
   refine (uh hcl).mono ?_
   rintro r w2 ⟨rfl, hw2⟩
   have HW2 := hide hw2
   clear hw2
   refine hK.out _ _ ?_
   clear hK KK
   go_wp2_with fail
   go_end0
   obtain ⟨U2, hK2, hT2⟩ := uh HW2
   exact ⟨rfl, U2, hK2, (uh HNX w2 U2 hK2 hT2.undrew).below (uh HB0) hbkl⟩
theorem pstate_keep {w : World} {bk : Nat} {U : Nat -> Prop} (h : KB w bk U) {b e : Nat} {v : Value} {A : Fs} (hv : FilesRow w b e v A) (hA : A.length <= 64) (hx : ∀ p ∈ A, p.2.bs.length <= 1048576) (hve : ∀ q, v.ownBlock = some q -> q < e) (he : e <= w.heap.size) (hb : ∀ q, b <= q -> q < e -> q ≠ bk /\ q ≠ 0 /\ ¬ U q) (cp fu : Int) (dn : Bool) :
  Calls Tryz.prog 121 #[.pointer (some ⟨bk, 0, none⟩), .agg #[.int .i64 cp, v, .int .i64 fu, .bool dn], .bool false] w fun r w' => r = .returned (.tuple #[]) /\ ∃ U', KB w' bk U' /\ TookR w w' bk U U' b e := by
 obtain ⟨pv, cv, hvv⟩ := hv.shape
 obtain ⟨xs, hrow, hst⟩ := hv
 have hbkl := h.lt
 have HSB : Hid (¬ U w.heap.size) := fun hq => by have := (h.ul _ hq).2.2; omega
 have HJ : Hid (∀ o, PJ (w.alloc o) bk b e A v xs U 0 (w.alloc o)) := fun o => ⟨b, U, Nat.le_refl _, by simpa using hst.far (fun q _ hq _ => Below.heap_alloc _ _ _ (Nat.lt_of_lt_of_le hq he)), hrow.alloc o, h.below (bal (Below.refl _ _) o), TookR.refl _ _ _ _ _, fun q hq => .inl hq⟩
 have HVE := hide hve
 have HB := hide hb
 have HX := hide hx
 have HF := hide hst.fcells
 have hlen : ((A.length : Nat) : Int) <= 64 := by omega
 subst hvv
 clear h hrow hst hve hb hx
 go_enter Tryz.func121, Tryz.ntmps121
 go_wp2_with fail
 obtain ⟨w0, hw0⟩ : ∃ w0, w0 = w.alloc (.cells #[.int .i64 cp, .slice pv A.length cv, .int .i64 fu, .bool dn] 59) := ⟨_, rfl⟩
 have c0 : w0.cell? ⟨w.heap.size, 1, none⟩ = some (.slice pv A.length cv) := by rw [hw0]; simp
 have HJ0 : Hid (PJ w0 bk b e A (.slice pv A.length cv) xs U 0 w0) := by rw [hw0]; exact uh HJ _
 have HB0 : Hid (Below w.heap.size w w0) := by rw [hw0]; exact bal (Below.refl _ _) _
 have hz0 : w0.heap.size = w.heap.size + 1 := by rw [hw0]; simp
 rw [<- hw0]
 clear HJ hw0
 go_loopw [6] (fun i wr => ∃ (j : Nat), j <= A.length /\ i = .int .i64 (j : Int) /\ PJ w0 bk b e A (.slice pv A.length cv) xs U j wr) (fun i _ => A.length - (intOf i).toNat)
 case atStart => exact ⟨0, by omega, rfl, uh HJ0⟩
 case round =>
  obtain ⟨j, hj, rfl, hJ⟩ := hrel
  have l1 : wr.cell? ⟨w.heap.size, 1, none⟩ = some (.slice pv A.length cv) := (hJ.box (by omega) (by omega) (uh HSB) he 1).trans c0
  have C0 := hide c0
  clear c0
  by_cases hlt : j < A.length
  ·obtain ⟨g, p, n, c, f, hpv, l2, Ur, hK, hown, hle, hL, hnx⟩ := hJ.open (uh HVE) (uh HB) (by omega) (uh HX) hlt
   subst hpv
   have E1 := hide ((hJ.cellAt (j * 3 + 1) (by omega)).symm.trans l2)
   have hcl := hide ((KB.drew hK).keepB (w := wr.drew) hown hle hL)
   have HNX := hide hnx
   have hI : (j : Int) < (A.length : Int) := by omega
   have hI0 : (0 : Int) <= (j : Int) := by omega
   clear hJ hK hown hle hL hnx
   go_wp2_with fail
   refine wp_region_last (n := 10) (S := fun W => W.cell? ⟨w.heap.size, 1, none⟩ = some (.slice (some ⟨g, 0, none⟩) A.length cv) /\ W.cell? ⟨g, j * 3 + 1, none⟩ = some (.slice p n c)) (by kernel_rfl) (by first | (exact ⟨l1, l2⟩)) (fun hHeld => ?_)
   refine tkW 0 ?_; refine tkW 1 ?_; refine tkW 2 ?_; refine tkW 3 ?_; refine tkN 4 ?_; refine tkW 5 ?_; refine tkW 6 ?_; refine tkW 7 ?_; refine tkN 8 ?_
   refine wpAnyL_one (i := 9) (by kernel_rfl) rfl (fun KK hK => ?_)
   go_simp
   go_at_call 111
   refine (uh hcl).mono ?_
   rintro r w2 ⟨rfl, U2, hK2, hT2⟩
   have HJ2 := hide (uh HNX w2 U2 hK2 hT2.undrew)
   have m1 : w2.cell? ⟨w.heap.size, 1, none⟩ = some (.slice (some ⟨g, 0, none⟩) A.length cv) := ((uh HJ2).box (by omega) (by omega) (uh HSB) he 1).trans (uh C0)
   have m2 : w2.cell? ⟨g, j * 3 + 1, none⟩ = some (.slice p n c) := ((uh HJ2).cellAt (j * 3 + 1) (by omega)).trans (uh E1)
   clear hK2 hT2
   refine hK.out _ _ (by first | (exact ⟨m1, m2⟩)) (fun hHeld => ?_)
   clear hK KK
   refine wpAnyL_done (by kernel_rfl) ?_
   go_wp2_with fail
   exact ⟨⟨j + 1, by omega, by go_num, uh HJ2⟩, by simp [intOf]; omega⟩
  ·have hjm : j = A.length := by omega
   have hI : ¬ (j : Int) < (A.length : Int) := by omega
   obtain ⟨F, Ur, hK, hown, hL, hnx⟩ := hJ.last (uh HVE) (uh HB) (by omega) (uh HF)
   have hcl := hide ((KB.drew hK).keepF (w := wr.drew) hown hA hL)
   have HNX := hide hnx
   clear hJ hK hown hL hnx
   go_wp2_with fail
   refine wp_region_last (n := 5) (S := fun W => W.cell? ⟨w.heap.size, 1, none⟩ = some (.slice pv A.length cv)) (by kernel_rfl) (by first | (exact l1)) (fun hHeld => ?_)
   refine tkW 0 ?_; refine tkW 1 ?_; refine tkW 2 ?_; refine tkW 3 ?_; refine tkS 4 ?_
   refine wpAnyL_end (i := 5) (by kernel_rfl) rfl (by kernel_rfl) (by kernel_rfl) (fun KK hK => ?_)
   go_simp
   go_at_call 216
   refine (uh hcl).mono ?_
   rintro r w2 ⟨rfl, hw2⟩
   have HW2 := hide hw2
   clear hw2
   refine hK.out _ _ ?_
   clear hK KK
   go_wp2_with fail
   go_end0
   obtain ⟨U2, hK2, hT2⟩ := uh HW2
   exact ⟨rfl, U2, hK2, (uh HNX w2 U2 hK2 hT2.undrew).below (uh HB0) hbkl⟩
end Go.Proofs.YtpeohbkigkfcgabGreatDoor
