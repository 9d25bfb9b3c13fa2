import Derived.Test.YtpeohbkigkfcgaaGreatDoorGAV
import Derived.Test.YtpeohbkigkfcgaaGreatDoorGBA
import Derived.Test.YtpeohbkigkfcgaaGreatDoorGAN
import Derived.Deep.Slices
import Derived.SizedLaws
set_option linter.unusedVariables false
set_option linter.unusedSimpArgs false
set_option maxRecDepth 100000
set_option maxHeartbeats 16000000
namespace Go.Proofs.YtpeohbkigkfcgaaGreatDoor
open Go Go.ChangeShapes Go.WideShapes Go.ChangeAt Go.RowKit
attribute [local go_sem] setCell_drewN alloc_drewN
theorem play_ok {w0 : World} (hP : Kt.Pw w0) (pu : Option Addr) (K cu : Nat) (X : Nat -> OpV) (hO : OpsAt w0 (.slice pu K cu) K X) (hI : ∀ i, i < K -> OpIn w0 (X i)) (hK : K <= 9223372036854775807) (part : Int) :
  Calls Tryz.prog 6 #[.slice pu K cu, .int .i64 part] w0 fun e w' => e = .returned (.bool true) /\ Below w0.heap.size w0 w' := by
 have HNEW : Hid (PlayIs w0 (w0.alloc (.cells #[.pointer none, .pointer none, .pointer none, .pointer none, .pointer none, .pointer none, .int .i64 0, .slice none 0 0, .slice none 0 0, .slice none 0 0, .slice none 0 0, .slice none 0 0, .slice none 0 0, .slice none 0 0, .slice none 0 0, .slice none 0 0, .slice none 0 0, .slice none 0 0, .slice none 0 0, .slice none 0 0, .slice none 0 0, .slice none 0 0, .slice none 0 0, .slice none 0 0, .slice none 0 0, .slice none 0 0, .slice none 0 0] 53)) w0.heap.size 64 (fun _ => none) (fun _ => False)) := by
  refine play_new (bal (Below.refl _ _) _) hP.lt (Nat.le_refl _) (fun i hi => ?_) (by go_simp) (fun i h1 h2 => ?_) (fun i => by go_simp) (hP.below (bal (Below.refl _ _) _))
  ·match i, hi with
   | 0, _ => go_simp
   | 1, _ => go_simp
   | 2, _ => go_simp
   | 3, _ => go_simp
   | 4, _ => go_simp
   | 5, _ => go_simp
  ·have h3 : i < 27 := by omega
   clear h2
   match i, h1, h3 with
   | 0, h, _ => omega
   | 1, h, _ => omega
   | 2, h, _ => omega
   | 3, h, _ => omega
   | 4, h, _ => omega
   | 5, h, _ => omega
   | 6, h, _ => omega
   | 7, _, _ => go_simp
   | 8, _, _ => go_simp
   | 9, _, _ => go_simp
   | 10, _, _ => go_simp
   | 11, _, _ => go_simp
   | 12, _, _ => go_simp
   | 13, _, _ => go_simp
   | 14, _, _ => go_simp
   | 15, _, _ => go_simp
   | 16, _, _ => go_simp
   | 17, _, _ => go_simp
   | 18, _, _ => go_simp
   | 19, _, _ => go_simp
   | 20, _, _ => go_simp
   | 21, _, _ => go_simp
   | 22, _, _ => go_simp
   | 23, _, _ => go_simp
   | 24, _, _ => go_simp
   | 25, _, _ => go_simp
   | 26, _, _ => go_simp
   | n + 27, _, h => omega
 have HO := hide hO
 have HI := hide hI
 clear hP hO hI
 go_enter Tryz.func6, Tryz.ntmps6
 go_wp2_with fail
 go_loopw [6] (fun u wr => ∃ (i : Nat) (T : Nat -> Option Tw) (U : Nat -> Prop), i <= K /\ i <= 400 /\ u = .int .i64 (i : Int) /\ PlayIs w0 wr w0.heap.size (64 * (i + 1)) T U) (fun u _ => K - (intOf u).toNat)
 case atStart => exact ⟨0, _, _, by omega, by omega, rfl, uh HNEW⟩
 case round =>
  obtain ⟨i0, T, U, hi, hi4, rfl, hPi⟩ := hrel
  have HPL := hide hPi
  by_cases hc : i0 < K /\ i0 < 400
  ·obtain ⟨hlt, h4⟩ := hc
   have hI : (i0 : Int) < (K : Int) := by omega
   have hI0 : (0 : Int) <= (i0 : Int) := by omega
   have hI4 : (i0 : Int) < 400 := by omega
   obtain ⟨b, off, hpu, hcell⟩ : ∃ b off, pu = some ⟨b, off, none⟩ /\ ∀ i, i < K -> ∀ j u, (X i).cells[j]? = some u -> w0.cell? ⟨b, off + (i * 12 + j), none⟩ = some u := by
    rcases uh HO with ⟨h0, _⟩ | ⟨b, off, c, h1, h2⟩
    ·omega
    ·injection h1 with h1 _ _
     exact ⟨b, off, h1, h2⟩
   subst hpu
   obtain ⟨o, ho⟩ : ∃ o, o = X i0 := ⟨_, rfl⟩
   have hcw : ∀ j u, o.cells[j]? = some u -> wr.cell? ⟨b, off + i0 * 12 + j, none⟩ = some u := fun j u hu => by
    rw [ho] at hu
    have h1 := hcell i0 hlt j u hu
    rw [<- Nat.add_assoc] at h1
    exact keep1 hPi.bl (World.block_lt_of_cell? w0 _ h1) h1
   have c0 : wr.cell? ⟨b, off + i0 * 12, none⟩ = some (.int .i64 o.d) := hcw 0 _ rfl
   have c1 : wr.cell? ⟨b, off + i0 * 12 + 1, none⟩ = some (.int .i64 o.kd) := hcw 1 _ rfl
   have c2 : wr.cell? ⟨b, off + i0 * 12 + 2, none⟩ = some (.string o.nm) := hcw 2 _ rfl
   have c3 : wr.cell? ⟨b, off + i0 * 12 + 3, none⟩ = some (.string o.to) := hcw 3 _ rfl
   have c4 : wr.cell? ⟨b, off + i0 * 12 + 4, none⟩ = some (.slice o.pu o.b2.length o.cu) := hcw 4 _ rfl
   have c5 : wr.cell? ⟨b, off + i0 * 12 + 5, none⟩ = some (.int .i64 o.pos) := hcw 5 _ rfl
   have c6 : wr.cell? ⟨b, off + i0 * 12 + 6, none⟩ = some (.int .i64 o.n) := hcw 6 _ rfl
   have c7 : wr.cell? ⟨b, off + i0 * 12 + 7, none⟩ = some (.slice o.pk o.ks.length o.ck) := hcw 7 _ rfl
   have c8 : wr.cell? ⟨b, off + i0 * 12 + 8, none⟩ = some (.int .i64 o.cp) := hcw 8 _ rfl
   have c9 : wr.cell? ⟨b, off + i0 * 12 + 9, none⟩ = some (.slice o.pf o.fs.length o.cf) := hcw 9 _ rfl
   have c10 : wr.cell? ⟨b, off + i0 * 12 + 10, none⟩ = some (.int .i64 o.fu) := hcw 10 _ rfl
   have c11 : wr.cell? ⟨b, off + i0 * 12 + 11, none⟩ = some (.bool o.dn) := hcw 11 _ rfl
   have hst := step_any hPi (by omega) o (by rw [ho]; exact uh HI i0 hlt)
   unfold OpV.val at hst
   have HST := hide hst
   clear hPi hcell hcw ho hst
   go_wp2_with fail
   refine (uh HST).mono ?_
   rintro r w2 ⟨rfl, T2, U2, h2⟩
   have H2 := hide h2
   clear h2 c0 c1 c2 c3 c4 c5 c6 c7 c8 c9 c10 c11
   go_wp2_with fail
   refine (uh H2).kb.intact.mono ?_
   rintro r w3 ⟨rfl, hb3⟩
   have H3 := hide ((uh H2).below hb3)
   clear hb3
   go_wp2_with fail
   exact ⟨⟨i0 + 1, T2, U2, by omega, by omega, by go_num, (uh H3).mono (by omega)⟩, by simp [intOf]; omega⟩
  ·have hex : (¬ (i0 : Int) < (K : Int) /\ decide ((i0 : Int) < (K : Int)) = false) \/ ((i0 : Int) < (K : Int) /\ ¬ (i0 : Int) < 400 /\ decide ((i0 : Int) < 400) = false) := by
    by_cases h1 : (i0 : Int) < (K : Int)
    ·exact .inr ⟨h1, by omega, decide_eq_false (by omega)⟩
    ·exact .inl ⟨h1, decide_eq_false h1⟩
   clear hPi hc
   rcases hex with ⟨hI, hD⟩ | ⟨hI, hI4, hD⟩
   all_goals
    go_wp2_with fail
    go_loopw [7] (fun u wr => ∃ (i : Nat), i <= 3 /\ u = .int .i64 (i : Int) /\ PlayIs w0 wr w0.heap.size (64 * (i0 + 1)) T U) (fun u _ => 3 - (intOf u).toNat)
    case atStart => exact ⟨0, by omega, rfl, uh HPL⟩
    case round =>
     obtain ⟨i, hi, rfl, hPi⟩ := hrel
     have HPI := hide hPi
     by_cases hlt : i < 3
     ·have hI : (i : Int) < 3 := by omega
      have hI0 : (0 : Int) <= (i : Int) := by omega
      have hp1 := hPi.p i hlt
      have hd1 := hPi.d i hlt
      have hyr : w0.heap.size < wr.heap.size := hPi.kb.lt
      cases ht : T i with
      | none =>
       rw [ht] at hp1 hd1
       have p1 : wr.cell? ⟨w0.heap.size, i, none⟩ = some (.pointer none) := hp1
       have d1 : wr.cell? ⟨w0.heap.size, 3 + i, none⟩ = some (.pointer none) := hd1
       clear hPi hp1 hd1 ht
       go_wp2_with fail
       refine wp_region_last (n := 34) (S := fun W => W.cell? ⟨w0.heap.size, i, none⟩ = some (.pointer none) /\ W.cell? ⟨w0.heap.size, 3 + i, none⟩ = some (.pointer none)) (by kernel_rfl) (by first | (exact ⟨p1, d1⟩)) (fun hHeld => ?_)
       refine tkW 0 ?_; refine tkW 1 ?_; refine tkW 2 ?_; refine tkW 3 ?_; refine tkW 4 ?_; refine tkN 5 ?_; refine tkW 6 ?_; refine tkW 7 ?_; refine tkX 8 ?_; refine tkX 9 ?_
       refine tkX 10 ?_; refine tkX 11 ?_; refine tkX 12 ?_; refine tkX 13 ?_; refine tkX 14 ?_; refine tkW 15 ?_; refine tkW 16 ?_; refine tkX 17 ?_; refine tkX 18 ?_; refine tkX 19 ?_
       refine tkX 20 ?_; refine tkX 21 ?_; refine tkX 22 ?_; refine tkX 23 ?_; refine tkX 24 ?_; refine tkX 25 ?_; refine tkX 26 ?_; refine tkX 27 ?_; refine tkX 28 ?_; refine tkX 29 ?_
       refine tkX 30 ?_; refine tkX 31 ?_; refine tkX 32 ?_; refine tkW 33 ?_
       refine wpAnyL_done (by kernel_rfl) ?_
       go_wp2_with fail
       exact ⟨⟨i + 1, by omega, by go_num, (uh HPI).below (Below.refl _ _).drew⟩, by simp [intOf]; omega⟩
      | some t =>
       rw [ht] at hp1 hd1
       have p1 : wr.cell? ⟨w0.heap.size, i, none⟩ = some (.pointer (some ⟨t.pb, 0, none⟩)) := hp1
       have d1 : wr.cell? ⟨w0.heap.size, 3 + i, none⟩ = some (.pointer (some ⟨t.rb, 0, none⟩)) := hd1
       have hT := hPi.tw i hlt t ht
       have hA := hT.i.many
       have HA : Hid (∀ W, Below wr.heap.size wr W -> Calls Tryz.prog 12 #[.pointer (some ⟨t.pb, 0, none⟩)] W fun e w2 => (∃ v, e = .returned (.agg #[.int .i64 t.K.cap, v, .int .i64 t.K.fuse, .bool t.K.down]) /\ ∃ b, W.heap.size <= b /\ FilesRow w2 b w2.heap.size v t.K.A) /\ Below W.heap.size W w2) := fun W hb => by
        obtain ⟨mo, n, es, hD⟩ := hT.p.below hb
        exact state_ok hD hT.i
       have HR : Hid (∀ W, Below wr.heap.size wr W -> Calls Tryz.prog 13 #[.pointer (some ⟨t.rb, 0, none⟩)] W fun e w2 => (∃ v, e = .returned (.agg #[.int .i64 t.K.cap, v, .int .i64 t.K.fuse, .bool t.K.down]) /\ ∃ b, W.heap.size <= b /\ FilesRow w2 b w2.heap.size v t.K.A) /\ Below W.heap.size W w2) := fun W hb => rstate_ok (hT.r.below hb) hT.i
       obtain ⟨CP, hCe⟩ : ∃ CP, CP = t.K.cap := ⟨_, rfl⟩
       obtain ⟨FU, hFe⟩ : ∃ FU, FU = t.K.fuse := ⟨_, rfl⟩
       obtain ⟨DN, hDe⟩ : ∃ DN, DN = t.K.down := ⟨_, rfl⟩
       rw [<- hCe, <- hFe, <- hDe] at HA HR
       clear hPi hp1 hd1 ht hT hCe hFe hDe
       go_wp2_with fail
       refine wp_region_last (n := 34) (S := fun W => W.cell? ⟨w0.heap.size, i, none⟩ = some (.pointer (some ⟨t.pb, 0, none⟩)) /\ W.cell? ⟨w0.heap.size, 3 + i, none⟩ = some (.pointer (some ⟨t.rb, 0, none⟩))) (by kernel_rfl) (by first | (exact ⟨p1, d1⟩)) (fun hHeld => ?_)
       refine tkW 0 ?_; refine tkW 1 ?_; refine tkW 2 ?_; refine tkW 3 ?_; refine tkW 4 ?_; refine tkN 5 ?_; refine tkW 6 ?_; refine tkW 7 ?_; refine tkW 8 ?_; refine tkW 9 ?_
       refine tkW 10 ?_; refine tkW 11 ?_; refine tkW 12 ?_; refine tkN 13 ?_; refine tkW 14 ?_; refine tkW 15 ?_; refine tkW 16 ?_; refine tkW 17 ?_; refine tkW 18 ?_; refine tkW 19 ?_
       refine tkW 20 ?_; refine tkW 21 ?_; refine tkN 22 ?_; refine tkW 24 ?_; refine tkW 25 ?_; refine tkW 26 ?_; refine tkW 27 ?_; refine tkW 28 ?_; refine tkN 29 ?_
       refine wpAnyL_one (i := 23) (by kernel_rfl) rfl (fun KK hK => ?_)
       go_simp
       go_at_call 12
       refine (uh HA _ (Below.refl _ _).drew).mono ?_
       rintro r w2 ⟨⟨va, rfl, ba, hba, ra⟩, hb2⟩
       have RA := hide ra
       have C2 : Hid (Below wr.heap.size wr w2) := ⟨hb2.os, hb2.tape, hb2.output, hb2.size, hb2.block⟩
       have p2 := keep1 (uh C2) hyr p1
       have d2 := keep1 (uh C2) hyr d1
       clear ra hb2
       refine hK.out _ _ (by first | (exact ⟨p2, d2⟩)) (fun hHeld => ?_)
       clear hK KK
       refine wpAnyL_one (i := 30) (by kernel_rfl) rfl (fun KK hK => ?_)
       go_simp
       go_at_call 13
       refine (uh HR w2 (uh C2)).mono ?_
       rintro r w3 ⟨⟨vb, rfl, bb, hbb, rb⟩, hb3⟩
       have RB := hide rb
       have C23 : Hid (Below w2.heap.size w2 w3) := hb3
       have C3 : Hid (Below wr.heap.size wr w3) := (uh C2).trans (hb3.mono (uh C2).size)
       have p3 := keep1 (uh C3) hyr p1
       have d3 := keep1 (uh C3) hyr d1
       clear rb hb3
       refine hK.out _ _ (by first | (exact ⟨p3, d3⟩)) (fun hHeld => ?_)
       clear hK KK
       refine wpAnyL_one (i := 31) (by kernel_rfl) rfl (fun KK hK => ?_)
       go_simp
       go_at_call 11
       refine (same_ok CP FU DN ((uh RA).below (Nat.le_refl _) (uh C23)) (uh RB) (uh C23).size (Nat.le_refl _) hA).mono ?_
       rintro r w4 ⟨rfl, hb4⟩
       have C4 : Hid (Below wr.heap.size wr w4) := (uh C3).trans (hb4.mono (uh C3).size)
       have p4 := keep1 (uh C4) hyr p1
       have d4 := keep1 (uh C4) hyr d1
       clear hb4
       refine hK.out _ _ (by first | (exact ⟨p4, d4⟩)) (fun hHeld => ?_)
       clear hK KK
       refine tkW 32 ?_; refine tkW 33 ?_
       refine wpAnyL_done (by kernel_rfl) ?_
       go_wp2_with fail
       exact ⟨⟨i + 1, by omega, by go_num, (uh HPI).below (uh C4)⟩, by simp [intOf]; omega⟩
     ·have hI : ¬ (i : Int) < 3 := by omega
      clear hPi
      go_wp2_with fail
      refine (uh HPI).kb.settle.mono ?_
      rintro r w5 ⟨rfl, U5, hk5, hs5⟩
      have P5 := hide ((uh HPI).settled hs5 hk5)
      clear hk5 hs5 HPL HPI
      obtain ⟨U, hU⟩ : ∃ U, U = U5 := ⟨_, rfl⟩
      rw [<- hU] at P5
      have HPL := P5
      clear P5 hU
      go_wp2_with fail
      go_loopw [8] (fun u wr => ∃ (i : Nat), i <= 3 /\ u = .int .i64 (i : Int) /\ PlayIs w0 wr w0.heap.size (64 * (i0 + 1)) T U) (fun u _ => 3 - (intOf u).toNat)
      case atStart => exact ⟨0, by omega, rfl, uh HPL⟩
      case round =>
       obtain ⟨i, hi, rfl, hPi⟩ := hrel
       have HPI := hide hPi
       by_cases hlt : i < 3
       ·have hI : (i : Int) < 3 := by omega
        have hI0 : (0 : Int) <= (i : Int) := by omega
        have hp1 := hPi.p i hlt
        have hd1 := hPi.d i hlt
        have hyr : w0.heap.size < wr.heap.size := hPi.kb.lt
        cases ht : T i with
        | none =>
         rw [ht] at hp1 hd1
         have p1 : wr.cell? ⟨w0.heap.size, i, none⟩ = some (.pointer none) := hp1
         have d1 : wr.cell? ⟨w0.heap.size, 3 + i, none⟩ = some (.pointer none) := hd1
         clear hPi hp1 hd1 ht
         go_wp2_with fail
         refine wp_region_last (n := 34) (S := fun W => W.cell? ⟨w0.heap.size, i, none⟩ = some (.pointer none) /\ W.cell? ⟨w0.heap.size, 3 + i, none⟩ = some (.pointer none)) (by kernel_rfl) (by first | (exact ⟨p1, d1⟩)) (fun hHeld => ?_)
         refine tkW 0 ?_; refine tkW 1 ?_; refine tkW 2 ?_; refine tkW 3 ?_; refine tkW 4 ?_; refine tkN 5 ?_; refine tkW 6 ?_; refine tkW 7 ?_; refine tkX 8 ?_; refine tkX 9 ?_
         refine tkX 10 ?_; refine tkX 11 ?_; refine tkX 12 ?_; refine tkX 13 ?_; refine tkX 14 ?_; refine tkW 15 ?_; refine tkW 16 ?_; refine tkX 17 ?_; refine tkX 18 ?_; refine tkX 19 ?_
         refine tkX 20 ?_; refine tkX 21 ?_; refine tkX 22 ?_; refine tkX 23 ?_; refine tkX 24 ?_; refine tkX 25 ?_; refine tkX 26 ?_; refine tkX 27 ?_; refine tkX 28 ?_; refine tkX 29 ?_
         refine tkX 30 ?_; refine tkX 31 ?_; refine tkX 32 ?_; refine tkW 33 ?_
         refine wpAnyL_done (by kernel_rfl) ?_
         go_wp2_with fail
         exact ⟨⟨i + 1, by omega, by go_num, (uh HPI).below (Below.refl _ _).drew⟩, by simp [intOf]; omega⟩
        | some t =>
         rw [ht] at hp1 hd1
         have p1 : wr.cell? ⟨w0.heap.size, i, none⟩ = some (.pointer (some ⟨t.pb, 0, none⟩)) := hp1
         have d1 : wr.cell? ⟨w0.heap.size, 3 + i, none⟩ = some (.pointer (some ⟨t.rb, 0, none⟩)) := hd1
         have hT := hPi.tw i hlt t ht
         have hA := hT.i.many
         have HA : Hid (∀ W, Below wr.heap.size wr W -> Calls Tryz.prog 12 #[.pointer (some ⟨t.pb, 0, none⟩)] W fun e w2 => (∃ v, e = .returned (.agg #[.int .i64 t.K.cap, v, .int .i64 t.K.fuse, .bool t.K.down]) /\ ∃ b, W.heap.size <= b /\ FilesRow w2 b w2.heap.size v t.K.A) /\ Below W.heap.size W w2) := fun W hb => by
          obtain ⟨mo, n, es, hD⟩ := hT.p.below hb
          exact state_ok hD hT.i
         have HR : Hid (∀ W, Below wr.heap.size wr W -> Calls Tryz.prog 13 #[.pointer (some ⟨t.rb, 0, none⟩)] W fun e w2 => (∃ v, e = .returned (.agg #[.int .i64 t.K.cap, v, .int .i64 t.K.fuse, .bool t.K.down]) /\ ∃ b, W.heap.size <= b /\ FilesRow w2 b w2.heap.size v t.K.A) /\ Below W.heap.size W w2) := fun W hb => rstate_ok (hT.r.below hb) hT.i
         obtain ⟨CP, hCe⟩ : ∃ CP, CP = t.K.cap := ⟨_, rfl⟩
         obtain ⟨FU, hFe⟩ : ∃ FU, FU = t.K.fuse := ⟨_, rfl⟩
         obtain ⟨DN, hDe⟩ : ∃ DN, DN = t.K.down := ⟨_, rfl⟩
         rw [<- hCe, <- hFe, <- hDe] at HA HR
         clear hPi hp1 hd1 ht hT hCe hFe hDe
         go_wp2_with fail
         refine wp_region_last (n := 34) (S := fun W => W.cell? ⟨w0.heap.size, i, none⟩ = some (.pointer (some ⟨t.pb, 0, none⟩)) /\ W.cell? ⟨w0.heap.size, 3 + i, none⟩ = some (.pointer (some ⟨t.rb, 0, none⟩))) (by kernel_rfl) (by first | (exact ⟨p1, d1⟩)) (fun hHeld => ?_)
         refine tkW 0 ?_; refine tkW 1 ?_; refine tkW 2 ?_; refine tkW 3 ?_; refine tkW 4 ?_; refine tkN 5 ?_; refine tkW 6 ?_; refine tkW 7 ?_; refine tkW 8 ?_; refine tkW 9 ?_
         refine tkW 10 ?_; refine tkW 11 ?_; refine tkW 12 ?_; refine tkN 13 ?_; refine tkW 14 ?_; refine tkW 15 ?_; refine tkW 16 ?_; refine tkW 17 ?_; refine tkW 18 ?_; refine tkW 19 ?_
         refine tkW 20 ?_; refine tkW 21 ?_; refine tkN 22 ?_; refine tkW 24 ?_; refine tkW 25 ?_; refine tkW 26 ?_; refine tkW 27 ?_; refine tkW 28 ?_; refine tkN 29 ?_
         refine wpAnyL_one (i := 23) (by kernel_rfl) rfl (fun KK hK => ?_)
         go_simp
         go_at_call 12
         refine (uh HA _ (Below.refl _ _).drew).mono ?_
         rintro r w2 ⟨⟨va, rfl, ba, hba, ra⟩, hb2⟩
         have RA := hide ra
         have C2 : Hid (Below wr.heap.size wr w2) := ⟨hb2.os, hb2.tape, hb2.output, hb2.size, hb2.block⟩
         have p2 := keep1 (uh C2) hyr p1
         have d2 := keep1 (uh C2) hyr d1
         clear ra hb2
         refine hK.out _ _ (by first | (exact ⟨p2, d2⟩)) (fun hHeld => ?_)
         clear hK KK
         refine wpAnyL_one (i := 30) (by kernel_rfl) rfl (fun KK hK => ?_)
         go_simp
         go_at_call 13
         refine (uh HR w2 (uh C2)).mono ?_
         rintro r w3 ⟨⟨vb, rfl, bb, hbb, rb⟩, hb3⟩
         have RB := hide rb
         have C23 : Hid (Below w2.heap.size w2 w3) := hb3
         have C3 : Hid (Below wr.heap.size wr w3) := (uh C2).trans (hb3.mono (uh C2).size)
         have p3 := keep1 (uh C3) hyr p1
         have d3 := keep1 (uh C3) hyr d1
         clear rb hb3
         refine hK.out _ _ (by first | (exact ⟨p3, d3⟩)) (fun hHeld => ?_)
         clear hK KK
         refine wpAnyL_one (i := 31) (by kernel_rfl) rfl (fun KK hK => ?_)
         go_simp
         go_at_call 11
         refine (same_ok CP FU DN ((uh RA).below (Nat.le_refl _) (uh C23)) (uh RB) (uh C23).size (Nat.le_refl _) hA).mono ?_
         rintro r w4 ⟨rfl, hb4⟩
         have C4 : Hid (Below wr.heap.size wr w4) := (uh C3).trans (hb4.mono (uh C3).size)
         have p4 := keep1 (uh C4) hyr p1
         have d4 := keep1 (uh C4) hyr d1
         clear hb4
         refine hK.out _ _ (by first | (exact ⟨p4, d4⟩)) (fun hHeld => ?_)
         clear hK KK
         refine tkW 32 ?_; refine tkW 33 ?_
         refine wpAnyL_done (by kernel_rfl) ?_
         go_wp2_with fail
         exact ⟨⟨i + 1, by omega, by go_num, (uh HPI).below (uh C4)⟩, by simp [intOf]; omega⟩
       ·have hI : ¬ (i : Int) < 3 := by omega
        clear hPi
        go_wp2_with fail
        refine (uh HPI).kb.intact.mono ?_
        rintro r w8 ⟨rfl, hb8⟩
        have C8 := hide ((uh HPI).below hb8)
        clear hb8
        go_wp2_with fail
        refine (first_ok w8).mono ?_
        rintro r w9 ⟨rfl, hb9⟩
        have C9 := hide ((uh C8).below hb9)
        clear hb9
        go_wp2_with fail
        go_ret
        exact ⟨rfl, (uh C9).bl⟩
end Go.Proofs.YtpeohbkigkfcgaaGreatDoor
namespace Go.Proofs.YtpeohbkigkfcgaaGreatDoor
open Go Go.Shelf Go.ChangeShapes Go.WideShapes Go.ChangeAt Go.RowKit Go.Maps Go.Sort Go.Deep
theorem cells61 : Tryz.prog.cellsOf 61 = 12 := by kernel_rfl
theorem cells59 : Tryz.prog.cellsOf 59 = 4 := by kernel_rfl
theorem cells3 : Tryz.prog.cellsOf 3 = 1 := by kernel_rfl
theorem cells4 : Tryz.prog.cellsOf 4 = 1 := by kernel_rfl
theorem cells5 : Tryz.prog.cellsOf 5 = 1 := by kernel_rfl
theorem cells9 : Tryz.prog.cellsOf 9 = 1 := by kernel_rfl
theorem cells55 : Tryz.prog.cellsOf 55 = 1 := by kernel_rfl
theorem cells56 : Tryz.prog.cellsOf 56 = 1 := by kernel_rfl
theorem cells57 : Tryz.prog.cellsOf 57 = 1 := by kernel_rfl
theorem cells82 : Tryz.prog.cellsOf 82 = 3 := by kernel_rfl
theorem bytes82 : Tryz.prog.bytesOf 82 = 48 := by kernel_rfl
theorem bytes5 : Tryz.prog.bytesOf 5 = 1 := by kernel_rfl
theorem bytes3 : Tryz.prog.bytesOf 3 = 8 := by kernel_rfl
theorem list12 {α : Type} {cs : List α} (h : cs.length = 12) : ∃ c0 c1 c2 c3 c4 c5 c6 c7 c8 c9 c10 c11, cs = [c0, c1, c2, c3, c4, c5, c6, c7, c8, c9, c10, c11] := by
 match cs, h with
 | [c0, c1, c2, c3, c4, c5, c6, c7, c8, c9, c10, c11], _ => exact ⟨c0, c1, c2, c3, c4, c5, c6, c7, c8, c9, c10, c11, rfl⟩
theorem weights_all_mem {H : Type} {P : Program} {e : TypeId} {d : DataW H} : ∀ {l : List (DataW H)}, d ∈ l -> ∀ n ∈ d.weights P e, n ∈ DataW.weightsAll P e l
 | [], h, _, _ => by cases h
 | x :: r, h, n, hn => by
  simp only [DataW.weightsAll, List.mem_append]
  rcases List.mem_cons.1 h with rfl | h
  ·exact .inl hn
  ·exact .inr (weights_all_mem h n hn)
section
variable {H : Type} {enc : TypeId × Value -> H} {W : World}
theorem open_bs {fuel : Nat} {v : Value} {x : DataW H × List MemPlace} (h : DataW.trod enc Tryz.prog W 0 (fun _ => true) true fuel 55 [v] = some x) (hw : ∀ n ∈ x.1.weights Tryz.prog 55, n <= reachBytes) :
  ∃ p c bs, v = .slice p bs.length c /\ BytesIn W (.slice p bs.length c) bs /\ bs.length <= 140737488351232 := by
 rcases open_ints Tryz.underlying55 Tryz.underlying5 cells5 h with ⟨hcs, _⟩ | ⟨a, len, cap, zs, hcs, hb, hl, hm, hz, hx, hcell, hwz⟩
 ·simp only [List.cons.injEq, and_true] at hcs
  exact ⟨none, 0, [], hcs, .inl ⟨rfl, rfl⟩, by simp⟩
 ·simp only [List.cons.injEq, and_true] at hcs
  have hz' : zs.length = cap := by simpa using hz
  have hbl : ((zs.take len).map fun z => UInt8.ofNat z.toNat).length = len := by simp; omega
  refine ⟨some a, cap, (zs.take len).map fun z => UInt8.ofNat z.toNat, by rw [hbl]; exact hcs, .inr ⟨a, cap, rfl, fun j u hj => ?_⟩, ?_⟩
  ·have hj' : j < len := by
    have := (List.getElem?_eq_some_iff.1 hj).1
    rw [bcs_len, hbl] at this
    exact this
   rw [hcell j (by omega)]
   have h8 := hwz _ (List.getElem_mem (show j < zs.length by omega))
   simp only [Lit.wf, IntKind.min, IntKind.max, IntKind.signed] at h8
   simp at h8
   have e8 : (2 : Int) ^ IntKind.u8.bits = 256 := by decide
   have e1 : zs.getD j 0 = zs[j]'(by omega) := by simp [List.getD, show j < zs.length by omega]
   have e2 : ((UInt8.ofNat (zs[j]'(by omega)).toNat).toNat : Int) = zs[j]'(by omega) := by
    rw [UInt8.toNat_ofNat']
    omega
   simp only [bcs, List.getElem?_map] at hj
   rw [List.getElem?_take_of_lt hj', List.getElem?_eq_getElem (show j < zs.length by omega)] at hj
   simp only [Option.map_some, Option.some.injEq] at hj
   rw [<- hj, e1, e2]
  ·rw [hbl]
   have h1 := hw (((lits .u8 (zs.take len) : List (DataW H)).length + (lits .u8 (zs.drop len) : List (DataW H)).length) * Tryz.prog.bytesOf 5) (by rw [(Prod.mk.inj hx).1]; simp [DataW.weights, Tryz.underlying55])
   rw [bytes5] at h1
   simp only [lits, List.length_map, List.length_take, List.length_drop, reachBytes] at h1
   omega
theorem open_ks {fuel : Nat} {v : Value} {x : DataW H × List MemPlace} (h : DataW.trod enc Tryz.prog W 0 (fun _ => true) true fuel 56 [v] = some x) (hw : ∀ n ∈ x.1.weights Tryz.prog 56, n <= reachBytes) :
  ∃ p c ks, v = .slice p ks.length c /\ (ks ≠ [] -> KsAt W (.slice p ks.length c) ks) /\ (p = none -> c = 0) /\ ks.length <= 17592186043904 := by
 rcases open_ints Tryz.underlying56 Tryz.underlying3 cells3 h with ⟨hcs, _⟩ | ⟨a, len, cap, zs, hcs, hb, hl, hm, hz, hx, hcell, hwz⟩
 ·simp only [List.cons.injEq, and_true] at hcs
  exact ⟨none, 0, [], hcs, fun e => absurd rfl e, fun _ => rfl, by simp⟩
 ·simp only [List.cons.injEq, and_true] at hcs
  have hz' : zs.length = cap := by simpa using hz
  have hbl : (zs.take len).length = len := by simp; omega
  refine ⟨some a, cap, zs.take len, by rw [hbl]; exact hcs, fun hne => ?_, fun e => (by cases e), ?_⟩
  ·have hcl : ∀ i k, (zs.take len)[i]? = some k -> W.cell? (a.add i) = some (.int .i64 k) := fun i k hi => by
    have hj' : i < len := by
     have := (List.getElem?_eq_some_iff.1 hi).1
     omega
    rw [hcell i (by omega)]
    have e1 : zs.getD i 0 = zs[i]'(by omega) := by simp [List.getD, show i < zs.length by omega]
    rw [List.getElem?_take_of_lt hj', List.getElem?_eq_getElem (show i < zs.length by omega)] at hi
    injection hi with hi
    rw [e1, hi]
   obtain ⟨k0, ks', hks⟩ := List.exists_cons_of_ne_nil hne
   have hs := spot_of_cell (hcl 0 k0 (by rw [hks]; rfl))
   obtain ⟨b, off, sp⟩ := a
   simp only at hs
   subst hs
   exact .inr ⟨b, off, cap, rfl, fun i k hi => by have := hcl i k hi; rwa [Addr.add_mid] at this⟩
  ·rw [hbl]
   have h1 := hw (((lits .i64 (zs.take len) : List (DataW H)).length + (lits .i64 (zs.drop len) : List (DataW H)).length) * Tryz.prog.bytesOf 3) (by rw [(Prod.mk.inj hx).1]; simp [DataW.weights, Tryz.underlying56])
   rw [bytes3] at h1
   simp only [lits, List.length_map, List.length_take, List.length_drop, reachBytes] at h1
   omega
theorem trod_three {P : Program} {w : World} {base : Nat} {spare : Nat -> Bool} {held : Bool} {t : TypeId} {f0 f1 f2 : Field} {fuel : Nat} {cs : List Value} {x : DataW H × List MemPlace} (ht : P.underlying t = some (.struct #[f0, f1, f2])) (h : DataW.trod enc P w base spare held fuel t cs = some x) :
  ∃ (y0 y1 y2 : DataW H × List MemPlace) (n : Nat), x.1 = .agg [y0.1, y1.1, y2.1] /\ cs.length = P.cellsOf t /\ DataW.trod enc P w base spare held n f0.type ((cs.drop f0.offset).take (P.cellsOf f0.type)) = some y0 /\
   DataW.trod enc P w base spare held n f1.type ((cs.drop f1.offset).take (P.cellsOf f1.type)) = some y1 /\ DataW.trod enc P w base spare held n f2.type ((cs.drop f2.offset).take (P.cellsOf f2.type)) = some y2 := by
 obtain ⟨xs, n, _, rfl, hl, hlen, hf⟩ := DataW.trod_struct ht h
 match xs, hlen with
 | [y0, y1, y2], _ => exact ⟨y0, y1, y2, n, by simp, hl, by simpa using hf 0 f0 rfl, by simpa using hf 1 f1 rfl, by simpa using hf 2 f2 rfl⟩
theorem list3 {α : Type} {cs : List α} (h : cs.length = 3) : ∃ c0 c1 c2, cs = [c0, c1, c2] := by
 match cs, h with
 | [c0, c1, c2], _ => exact ⟨c0, c1, c2, rfl⟩
theorem open_file {fuel : Nat} {cs : List Value} {x : DataW H × List MemPlace} (h : DataW.trod enc Tryz.prog W 0 (fun _ => true) true fuel 82 cs = some x) (hw : ∀ n ∈ x.1.weights Tryz.prog 82, n <= reachBytes) :
  ∃ (f : FV) (p : Option Addr) (c : Nat), cs = [.string f.nm, .slice p f.bs.length c, .int .i64 f.sy] /\ BytesIn W (.slice p f.bs.length c) f.bs /\ f.bs.length <= 140737488351232 /\ f.nm.size <= 9223372036854775806 := by
 obtain ⟨y0, y1, y2, n, hx, hl, g0, g1, g2⟩ := trod_three Tryz.underlying82 h
 rw [cells82] at hl
 obtain ⟨c0, c1, c2, rfl⟩ := list3 hl
 simp only [cells3, cells9, cells55, List.drop_zero, List.drop_succ_cons, List.take_succ_cons, List.take_zero] at g0 g1 g2
 obtain ⟨s0, e0, x0, z0⟩ := DataW.trod_string Tryz.underlying9 g0
 obtain ⟨n2, e2, _, _⟩ := DataW.trod_int Tryz.underlying3 g2
 have w0 : ∀ m ∈ y0.1.weights Tryz.prog 9, m <= reachBytes := fun m hm => hw m (by
  rw [hx]
  simp only [DataW.weights, Tryz.underlying82]
  exact DataW.weights_mem_each (j := 0) (t := 9) rfl rfl m hm)
 have w1 : ∀ m ∈ y1.1.weights Tryz.prog 55, m <= reachBytes := fun m hm => hw m (by
  rw [hx]
  simp only [DataW.weights, Tryz.underlying82]
  exact DataW.weights_mem_each (j := 1) (t := 55) rfl rfl m hm)
 obtain ⟨pb, cb, bs, e1, hbs, lbs⟩ := open_bs g1 w1
 simp only [List.cons.injEq, and_true] at e0 e2
 refine ⟨⟨s0, bs, n2⟩, pb, cb, by rw [e0, e1, e2], hbs, lbs, ?_⟩
 show s0.size <= 9223372036854775806
 exact Nat.le_trans (w0 s0.size (by rw [x0]; simp [DataW.weights])) (by decide)
instance : Inhabited (FV × Option Addr × Nat) := ⟨⟨⟨⟨#[]⟩, [], 0⟩, none, 0⟩⟩
theorem open_fs {fuel : Nat} {v : Value} {x : DataW H × List MemPlace} (h : DataW.trod enc Tryz.prog W 0 (fun _ => true) true fuel 57 [v] = some x) (hw : ∀ n ∈ x.1.weights Tryz.prog 57, n <= reachBytes) :
  ∃ (p : Option Addr) (c : Nat) (l : List FV), v = .slice p l.length c /\ FilesIn W p l /\ l.length <= 2932031007320 /\ (∀ f ∈ l, f.nm.size <= 9223372036854775806) /\ ∀ f ∈ l, f.bs.length <= 140737488351232 := by
 rcases open_slice Tryz.underlying57 h with ⟨hcs, _⟩ | ⟨a, len, cap, m, n, D, Pl, hcs, hb, hl, hm, hmm, hx, hall⟩
 ·simp only [List.cons.injEq, and_true] at hcs
  exact ⟨none, 0, [], hcs, fun e => absurd rfl e, by simp, fun f hf => (by cases hf), fun f hf => (by cases hf)⟩
 ·simp only [List.cons.injEq, and_true] at hcs
  have hmm' : m = cap := by simpa using hmm
  have hd : x.1 = .slice ((List.range len).map D) ((List.range (m - len)).map fun j => D (len + j)) := (Prod.mk.inj hx).1
  have hq : ∀ i, i < len -> ∃ X : FV × Option Addr × Nat, (∀ j u, ([.string X.1.nm, .slice X.2.1 X.1.bs.length X.2.2, .int .i64 X.1.sy] : List Value)[j]? = some u -> W.cell? (a.add (i * 3 + j)) = some u) /\ BytesIn W (.slice X.2.1 X.1.bs.length X.2.2) X.1.bs /\ X.1.bs.length <= 140737488351232 /\ X.1.nm.size <= 9223372036854775806 := fun i hi => by
   obtain ⟨cs', h1, h2⟩ := hall i (by omega)
   obtain ⟨f, p, c, hf, h3, h4, h5⟩ := open_file h2 (fun n hn => hw n (by
    rw [hd]
    simp only [DataW.weights, Tryz.underlying57, List.mem_cons, List.mem_append]
    exact .inr (.inl (weights_all_mem (List.mem_map.2 ⟨i, List.mem_range.2 hi, rfl⟩) n hn))))
   refine ⟨⟨f, p, c⟩, fun j u hj => ?_, h3, h4, h5⟩
   rw [cells82] at h1
   obtain ⟨_, hlen, hc⟩ := World.cells?_some h1
   have hj' : j < 3 := (List.getElem?_eq_some_iff.1 hj).1
   have h6 := hc j hj'
   rw [hf, hj, add_add] at h6
   exact h6
  obtain ⟨X, hX⟩ := choose_lt (α := FV × Option Addr × Nat) hq
  have hln : ((List.range len).map fun i => (X i).1).length = len := by simp
  refine ⟨some a, cap, (List.range len).map fun i => (X i).1, by rw [hln]; exact hcs, fun hne => ?_, ?_, fun f hf => ?_, fun f hf => ?_⟩
  ·have h0 : 0 < len := by
    rcases Nat.eq_zero_or_pos len with e | e
    ·subst e; exact absurd rfl hne
    ·exact e
   have hs := spot_of_cell ((hX 0 h0).1 0 _ rfl)
   obtain ⟨b, off, sp⟩ := a
   simp only at hs
   subst hs
   refine ⟨b, off, rfl, fun i f hi => ?_⟩
   have hi' : i < len := by have := (List.getElem?_eq_some_iff.1 hi).1; simpa using this
   have hf : f = (X i).1 := by simp [hi'] at hi; exact hi.symm
   subst hf
   have hc := (hX i hi').1
   refine ⟨(X i).2.1, (X i).2.2, ?_, ?_, ?_, (hX i hi').2.1⟩
   ·have := hc 0 _ rfl; rw [Addr.add_mid] at this; exact this
   ·have := hc 1 _ rfl; rw [Addr.add_mid, <- Nat.add_assoc] at this; exact this
   ·have := hc 2 _ rfl; rw [Addr.add_mid, <- Nat.add_assoc] at this; exact this
  ·rw [hln]
   have h1 := hw (((List.range len).map D).length * Tryz.prog.bytesOf 82 + ((List.range (m - len)).map fun j => D (len + j)).length * Tryz.prog.bytesOf 82) (by
    rw [hd]
    simp [DataW.weights, Tryz.underlying57, Nat.add_mul])
   rw [bytes82] at h1
   simp only [List.length_map, List.length_range, reachBytes] at h1
   omega
  ·obtain ⟨i, hi, rfl⟩ := List.mem_map.1 hf
   exact (hX i (List.mem_range.1 hi)).2.2.2
  ·obtain ⟨i, hi, rfl⟩ := List.mem_map.1 hf
   exact (hX i (List.mem_range.1 hi)).2.2.1
end
instance : Inhabited OpV := ⟨⟨0, 0, ⟨#[]⟩, ⟨#[]⟩, none, 0, [], 0, 0, none, 0, [], 0, none, 0, [], 0, false⟩⟩
section
variable {H : Type} {enc : TypeId × Value -> H} {W : World}
theorem trod_struct9 {P : Program} {w : World} {base : Nat} {spare : Nat -> Bool} {held : Bool} {t : TypeId} {f0 f1 f2 f3 f4 f5 f6 f7 f8 : Field} {fuel : Nat} {cs : List Value} {x : DataW H × List MemPlace} (ht : P.underlying t = some (.struct #[f0, f1, f2, f3, f4, f5, f6, f7, f8])) (h : DataW.trod enc P w base spare held fuel t cs = some x) :
  ∃ (y0 y1 y2 y3 y4 y5 y6 y7 y8 : DataW H × List MemPlace) (n : Nat), x.1 = .agg [y0.1, y1.1, y2.1, y3.1, y4.1, y5.1, y6.1, y7.1, y8.1] /\ cs.length = P.cellsOf t /\
   DataW.trod enc P w base spare held n f0.type ((cs.drop f0.offset).take (P.cellsOf f0.type)) = some y0 /\
   DataW.trod enc P w base spare held n f1.type ((cs.drop f1.offset).take (P.cellsOf f1.type)) = some y1 /\
   DataW.trod enc P w base spare held n f2.type ((cs.drop f2.offset).take (P.cellsOf f2.type)) = some y2 /\
   DataW.trod enc P w base spare held n f3.type ((cs.drop f3.offset).take (P.cellsOf f3.type)) = some y3 /\
   DataW.trod enc P w base spare held n f4.type ((cs.drop f4.offset).take (P.cellsOf f4.type)) = some y4 /\
   DataW.trod enc P w base spare held n f5.type ((cs.drop f5.offset).take (P.cellsOf f5.type)) = some y5 /\
   DataW.trod enc P w base spare held n f6.type ((cs.drop f6.offset).take (P.cellsOf f6.type)) = some y6 /\
   DataW.trod enc P w base spare held n f7.type ((cs.drop f7.offset).take (P.cellsOf f7.type)) = some y7 /\
   DataW.trod enc P w base spare held n f8.type ((cs.drop f8.offset).take (P.cellsOf f8.type)) = some y8 := by
 obtain ⟨xs, n, _, rfl, hl, hlen, hf⟩ := DataW.trod_struct ht h
 match xs, hlen with
 | [y0, y1, y2, y3, y4, y5, y6, y7, y8], _ => exact ⟨y0, y1, y2, y3, y4, y5, y6, y7, y8, n, by simp, hl, by simpa using hf 0 f0 rfl, by simpa using hf 1 f1 rfl, by simpa using hf 2 f2 rfl, by simpa using hf 3 f3 rfl, by simpa using hf 4 f4 rfl, by simpa using hf 5 f5 rfl, by simpa using hf 6 f6 rfl, by simpa using hf 7 f7 rfl, by simpa using hf 8 f8 rfl⟩
theorem trod_four {P : Program} {w : World} {base : Nat} {spare : Nat -> Bool} {held : Bool} {t : TypeId} {f0 f1 f2 f3 : Field} {fuel : Nat} {cs : List Value} {x : DataW H × List MemPlace} (ht : P.underlying t = some (.struct #[f0, f1, f2, f3])) (h : DataW.trod enc P w base spare held fuel t cs = some x) :
  ∃ (y0 y1 y2 y3 : DataW H × List MemPlace) (n : Nat), x.1 = .agg [y0.1, y1.1, y2.1, y3.1] /\ DataW.trod enc P w base spare held n f0.type ((cs.drop f0.offset).take (P.cellsOf f0.type)) = some y0 /\
   DataW.trod enc P w base spare held n f1.type ((cs.drop f1.offset).take (P.cellsOf f1.type)) = some y1 /\ DataW.trod enc P w base spare held n f2.type ((cs.drop f2.offset).take (P.cellsOf f2.type)) = some y2 /\
   DataW.trod enc P w base spare held n f3.type ((cs.drop f3.offset).take (P.cellsOf f3.type)) = some y3 := by
 obtain ⟨xs, n, _, rfl, hl, hlen, hf⟩ := DataW.trod_struct ht h
 match xs, hlen with
 | [y0, y1, y2, y3], _ => exact ⟨y0, y1, y2, y3, n, by simp, by simpa using hf 0 f0 rfl, by simpa using hf 1 f1 rfl, by simpa using hf 2 f2 rfl, by simpa using hf 3 f3 rfl⟩
theorem open_op {fuel : Nat} {cs : List Value} {x : DataW H × List MemPlace} (h : DataW.trod enc Tryz.prog W 0 (fun _ => true) true fuel 61 cs = some x) (hw : ∀ n ∈ x.1.weights Tryz.prog 61, n <= reachBytes) :
  ∃ X : OpV, cs = X.cells /\ OpIn W X := by
 obtain ⟨y0, y1, y2, y3, y4, y5, y6, y7, y8, n, hx, hl, g0, g1, g2, g3, g4, g5, g6, g7, g8⟩ := trod_struct9 Tryz.underlying61 h
 rw [cells61] at hl
 obtain ⟨c0, c1, c2, c3, c4, c5, c6, c7, c8, c9, c10, c11, rfl⟩ := list12 hl
 clear h hl
 simp only [cells3, cells9, cells55, cells56, cells59, List.drop_zero, List.drop_succ_cons, List.take_succ_cons, List.take_zero] at g0 g1 g2 g3 g4 g5 g6 g7 g8
 obtain ⟨n0, e0, _, _⟩ := DataW.trod_int Tryz.underlying3 g0
 obtain ⟨n1, e1, _, _⟩ := DataW.trod_int Tryz.underlying3 g1
 obtain ⟨s2, e2, x2, z2⟩ := DataW.trod_string Tryz.underlying9 g2
 obtain ⟨s3, e3, x3, z3⟩ := DataW.trod_string Tryz.underlying9 g3
 obtain ⟨n5, e5, _, z5⟩ := DataW.trod_int Tryz.underlying3 g5
 obtain ⟨n6, e6, _, z6⟩ := DataW.trod_int Tryz.underlying3 g6
 have w2 : ∀ m ∈ y2.1.weights Tryz.prog 9, m <= reachBytes := fun m hm => hw m (by
  rw [hx]
  simp only [DataW.weights, Tryz.underlying61]
  exact DataW.weights_mem_each (j := 2) (t := 9) rfl rfl m hm)
 have w3 : ∀ m ∈ y3.1.weights Tryz.prog 9, m <= reachBytes := fun m hm => hw m (by
  rw [hx]
  simp only [DataW.weights, Tryz.underlying61]
  exact DataW.weights_mem_each (j := 3) (t := 9) rfl rfl m hm)
 have w4 : ∀ m ∈ y4.1.weights Tryz.prog 55, m <= reachBytes := fun m hm => hw m (by
  rw [hx]
  simp only [DataW.weights, Tryz.underlying61]
  exact DataW.weights_mem_each (j := 4) (t := 55) rfl rfl m hm)
 have w7 : ∀ m ∈ y7.1.weights Tryz.prog 56, m <= reachBytes := fun m hm => hw m (by
  rw [hx]
  simp only [DataW.weights, Tryz.underlying61]
  exact DataW.weights_mem_each (j := 7) (t := 56) rfl rfl m hm)
 obtain ⟨pb, cb, bs, e4, hbs, lbs⟩ := open_bs g4 w4
 obtain ⟨pk, ck, ks, e7, hks, hkn, lks⟩ := open_ks g7 w7
 obtain ⟨u0, u1, u2, u3, m, hx8, k0, k1, k2, k3⟩ := trod_four Tryz.underlying59 g8
 simp only [cells3, cells57, cells4, List.drop_zero, List.drop_succ_cons, List.take_succ_cons, List.take_zero] at k0 k1 k2 k3
 obtain ⟨n8, e8, _, _⟩ := DataW.trod_int Tryz.underlying3 k0
 have w8 : ∀ m ∈ y8.1.weights Tryz.prog 59, m <= reachBytes := fun m hm => hw m (by
  rw [hx]
  simp only [DataW.weights, Tryz.underlying61]
  exact DataW.weights_mem_each (j := 8) (t := 59) rfl rfl m hm)
 have w9 : ∀ m ∈ u1.1.weights Tryz.prog 57, m <= reachBytes := fun m hm => w8 m (by
  rw [hx8]
  simp only [DataW.weights, Tryz.underlying59]
  exact DataW.weights_mem_each (j := 1) (t := 57) rfl rfl m hm)
 obtain ⟨pf, cf, fs, e9, hfs, lfs, nfs, bfs⟩ := open_fs k1 w9
 obtain ⟨n10, e10, _, _⟩ := DataW.trod_int Tryz.underlying3 k2
 obtain ⟨b11, e11, _⟩ := DataW.trod_bool Tryz.underlying4 k3
 simp only [List.cons.injEq, and_true] at e0 e1 e2 e3 e5 e6 e8 e10 e11
 refine ⟨⟨n0, n1, s2, s3, pb, cb, bs, n5, n6, pk, ck, ks, n8, pf, cf, fs, n10, b11⟩, ?_, ⟨?_, ?_, hbs, lbs, bounds_i64 z5, bounds_i64 z6, hks, hkn, lks, hfs, lfs, nfs, bfs⟩⟩
 ·rw [e0, e1, e2, e3, e4, e5, e6, e7, e8, e9, e10, e11]
  rfl
 ·show s2.size <= 9223372036854775806
  exact Nat.le_trans (w2 s2.size (by rw [x2]; simp [DataW.weights])) (by decide)
 ·show s3.size <= 9223372036854775806
  exact Nat.le_trans (w3 s3.size (by rw [x3]; simp [DataW.weights])) (by decide)
theorem spot_none {base t e : Nat} {x : Addr} {len cap : Nat} (ht : Tryz.prog.underlying t = some (.slice e)) (hok : Value.okWide Tryz.prog W .any base t (.slice (some x) len cap)) : x.spot = none := by
 have h1 : Cell.okWide Tryz.prog W .any base t (.slice (some x) len cap) := by
  have h2 := hok
  unfold Value.okWide at h2
  rw [ht] at h2
  exact h2
 unfold Cell.okWide at h1
 rw [ht] at h1
 simp only [Cell.ok, ht, World.has] at h1
 exact h1.2.2.2.1
theorem open_ops {base : Nat} {v : Value} {d : DataW H} {p : List MemPlace} (hok : Value.okWide Tryz.prog W .any base 22 v) (h : ∃ fuel, DataW.trod enc Tryz.prog W 0 (fun _ => true) true fuel 22 v.cells.toList = some (d, p)) (hw : ∀ n ∈ d.weights Tryz.prog 22, n <= reachBytes) :
  ∃ (pu : Option Addr) (K cu : Nat) (X : Nat -> OpV), v = .slice pu K cu /\ K <= maxLen /\ OpsAt W (.slice pu K cu) K X /\ ∀ i, i < K -> OpIn W (X i) := by
 obtain ⟨a0, len0, cap0, rfl⟩ := okWide_slice Tryz.underlying22 hok
 obtain ⟨fuel, hf⟩ := h
 rcases open_slice Tryz.underlying22 hf with ⟨hcs, _⟩ | ⟨a, len, cap, m, n, D, Pl, hcs, hb, hl, hm, hmm, hx, hall⟩
 ·simp [Value.cells] at hcs
  obtain ⟨rfl, rfl, rfl⟩ := hcs
  exact ⟨none, 0, 0, fun _ => default, rfl, Nat.zero_le _, .inl ⟨rfl, none, 0, rfl⟩, fun i hi => by omega⟩
 ·simp [Value.cells] at hcs
  obtain ⟨rfl, rfl, rfl⟩ := hcs
  have hmm' : m = cap0 := by simpa using hmm
  have hspot := spot_none Tryz.underlying22 hok
  obtain ⟨b, off, sp⟩ := a
  simp only at hspot
  subst hspot
  have hd : d = .slice ((List.range len0).map D) ((List.range (m - len0)).map fun j => D (len0 + j)) := (Prod.mk.inj hx).1
  have hq : ∀ i, i < len0 -> ∃ X : OpV, (∀ j u, X.cells[j]? = some u -> W.cell? ⟨b, off + (i * 12 + j), none⟩ = some u) /\ OpIn W X := fun i hi => by
   obtain ⟨cs', h1, h2⟩ := hall i (by omega)
   obtain ⟨X, hX, hO⟩ := open_op h2 (fun n hn => hw n (by
    rw [hd]
    simp only [DataW.weights, Tryz.underlying22, List.mem_cons, List.mem_append]
    exact .inr (.inl (weights_all_mem (List.mem_map.2 ⟨i, List.mem_range.2 hi, rfl⟩) n hn))))
   refine ⟨X, fun j u hj => ?_, hO⟩
   rw [cells61] at h1
   obtain ⟨_, hlen, hc⟩ := World.cells?_some h1
   rw [<- hX] at hj
   have hj' : j < 12 := by
    have := (List.getElem?_eq_some_iff.1 hj).1
    omega
   have h3 := hc j hj'
   rw [hj, add_add, Addr.add_mid] at h3
   exact h3
  obtain ⟨X, hX⟩ := choose_lt (α := OpV) hq
  exact ⟨_, _, _, X, rfl, by omega, .inr ⟨b, off, cap0, rfl, fun i hi => (hX i hi).1⟩, fun i hi => (hX i hi).2⟩
end
end Go.Proofs.YtpeohbkigkfcgaaGreatDoor
namespace Go.Proofs.YtpeohbkigkfcgaaGreatDoor
open Go Go.ChangeShapes Go.WideShapes Go.ChangeAt Go.RowKit
theorem walk_DiskStates {w : World} (hP : Kt.Pw w) (pu : Option Addr) (K cu : Nat) (X : Nat -> OpV) (hO : OpsAt w (.slice pu K cu) K X) (hI : ∀ i, i < K -> OpIn w (X i)) (hK : K <= 9223372036854775807) :
  Calls Tryz.prog 3 #[.slice pu K cu] w fun e w' => e = .returned (.bool true) /\ Below w.heap.size w w' := by
 have HC := hide (play_ok hP pu K cu X hO hI hK 1)
 clear hP hO hI
 go_enter Tryz.func3, Tryz.ntmps3
 go_wp2_with fail
 refine (uh HC).mono ?_
 rintro e w' ⟨rfl, hb⟩
 have HB := hide hb
 clear hb
 go_wp2_with fail
 go_ret
 exact ⟨rfl, uh HB⟩
theorem walk_DiskChanges {w : World} (hP : Kt.Pw w) (pu : Option Addr) (K cu : Nat) (X : Nat -> OpV) (hO : OpsAt w (.slice pu K cu) K X) (hI : ∀ i, i < K -> OpIn w (X i)) (hK : K <= 9223372036854775807) :
  Calls Tryz.prog 4 #[.slice pu K cu] w fun e w' => e = .returned (.bool true) /\ Below w.heap.size w w' := by
 have HC := hide (play_ok hP pu K cu X hO hI hK 2)
 clear hP hO hI
 go_enter Tryz.func4, Tryz.ntmps4
 go_wp2_with fail
 refine (uh HC).mono ?_
 rintro e w' ⟨rfl, hb⟩
 have HB := hide hb
 clear hb
 go_wp2_with fail
 go_ret
 exact ⟨rfl, uh HB⟩
theorem walk_DiskLooks {w : World} (hP : Kt.Pw w) (pu : Option Addr) (K cu : Nat) (X : Nat -> OpV) (hO : OpsAt w (.slice pu K cu) K X) (hI : ∀ i, i < K -> OpIn w (X i)) (hK : K <= 9223372036854775807) :
  Calls Tryz.prog 5 #[.slice pu K cu] w fun e w' => e = .returned (.bool true) /\ Below w.heap.size w w' := by
 have HC := hide (play_ok hP pu K cu X hO hI hK 3)
 clear hP hO hI
 go_enter Tryz.func5, Tryz.ntmps5
 go_wp2_with fail
 refine (uh HC).mono ?_
 rintro e w' ⟨rfl, hb⟩
 have HB := hide hb
 clear hb
 go_wp2_with fail
 go_ret
 exact ⟨rfl, uh HB⟩
end Go.Proofs.YtpeohbkigkfcgaaGreatDoor
