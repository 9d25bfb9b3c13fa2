import Derived.Test.YtcafhmlpmbkhkaaGreatDoorV05
import Derived.Test.YtcafhmlpmbkhkaaGreatDoorW38
/- A table with room behind its lists (15). -/
namespace Go.Proofs.YtcafhmlpmbkhkaaGreatDoor
open Go Go.Shelf Go.ChangeShapes Go.WideShapes Go.ChangeAt Go.RowKit Go.Maps
set_option linter.unusedVariables false
set_option linter.unusedSimpArgs false
/-- what it hands back -/
structure LoOk (B : Nat) (W : World) (T : List Int) (nt : Nat) (X : List Rw) (nr gt ct go co : Nat) (pl : Option Addr) (cl : Nat) (G : List (Nat × Nat)) (MR : List Rw) : Prop where
  ot : W.ownsRow B 3 1 (.slice (some ⟨gt, 0, none⟩) (nt + 64) ct) (nt + 64) (kI.flat (T ++ Kg.mklI 64))
  cp : Cp B W X G
  oc : W.ownsRow B 41 1 (.slice pl nr cl) nr (kW.flat (cellsL G X))
  oo : W.ownsRow B 41 1 (.slice (some ⟨go, 0, none⟩) (nr + 64) co) (nr + 64) (kW.flat (rowsL G X ++ MR))
  ml : MR.length = 64
  mks : Kg.MkR W MR
def LoOut (w : World) (T : List Int) (nt : Nat) (X : List Rw) (nr : Nat) (e : Ending) (w' : World) : Prop :=
  ∃ gt ct go co pl cl G MR, e = .returned (.tuple #[tbV (some ⟨gt, 0, none⟩) nt ct (some ⟨go, 0, none⟩) nr co, .slice (some ⟨gt, 0, none⟩) (nt + 64) ct, .slice pl nr cl, .slice (some ⟨go, 0, none⟩) (nr + 64) co]) ∧
    LoOk w.heap.size w' T nt X nr gt ct go co pl cl G MR ∧ Below w.heap.size w w'
theorem LoOk.move {B : Nat} {W W' : World} {T : List Int} {nt : Nat} {X : List Rw} {nr gt ct go co : Nat} {pl : Option Addr} {cl : Nat} {G : List (Nat × Nat)} {MR : List Rw} (h : LoOk B W T nt X nr gt ct go co pl cl G MR)
    (hk : ∀ (k : Nat) (ys : Array Value) (t : TypeId) (f : Nat × Nat), W.heap[k]? = some (Obj.cells ys t f) → t ≠ 36 → W'.heap[k]? = W.heap[k]?) : LoOk B W' T nt X nr gt ct go co pl cl G MR := by
  have hr : ∀ {e s n : Nat} {v : Value} {xs : List Value}, W.ownsRow B e s v n xs → e ≠ 36 → W'.ownsRow B e s v n xs := fun ho he => row_keep ho fun g hg => by
    obtain ⟨ys, hy⟩ := own_obj ho hg
    exact hk g ys _ _ hy he
  refine ⟨hr h.ot (by decide), h.cp.keep fun k ys f hh => hk k ys 43 f hh (by decide), hr h.oc (by decide), hr h.oo (by decide), h.ml, fun j r hj => ?_⟩
  obtain ⟨h1, h2, h3, g, h4, h5⟩ := h.mks j r hj
  exact ⟨h1, h2, h3, g, h4, (hk g _ _ _ h5 (by decide)).trans h5⟩
theorem LoOk.below {B : Nat} {W W' : World} {T : List Int} {nt : Nat} {X : List Rw} {nr gt ct go co : Nat} {pl : Option Addr} {cl : Nat} {G : List (Nat × Nat)} {MR : List Rw} (h : LoOk B W T nt X nr gt ct go co pl cl G MR) (hb : Below W.heap.size W W') : LoOk B W' T nt X nr gt ct go co pl cl G MR :=
  h.move fun k ys t f hh _ => hb.block k (Array.getElem?_eq_some_iff.1 hh).1
theorem LoOk.mono {B C : Nat} {W : World} {T : List Int} {nt : Nat} {X : List Rw} {nr gt ct go co : Nat} {pl : Option Addr} {cl : Nat} {G : List (Nat × Nat)} {MR : List Rw} (h : LoOk B W T nt X nr gt ct go co pl cl G MR) (hC : C ≤ B) : LoOk C W T nt X nr gt ct go co pl cl G MR :=
  ⟨own_mono h.ot hC, ⟨h.cp.len, fun i gc r h1 h2 => own_mono (h.cp.own i gc r h1 h2) hC, h.cp.ne⟩, own_mono h.oc hC, own_mono h.oo hC, h.ml, h.mks⟩
theorem retT {tmps : Array Value} {w : World} {b : Nat} {pt pr : Option Addr} {nt ct nr cr : Nat} {v3 v4 v5 : Value} (hp : tmps[2]?.getD undef = .pointer (some ⟨b, 0, none⟩)) (h3 : tmps[3]?.getD undef = v3) (h4 : tmps[4]?.getD undef = v4) (h5 : tmps[5]?.getD undef = v5) (h : w.heap[b]? = some (.cells #[.slice pt nt ct, .slice pr nr cr] 36 (0, 0))) :
    (results Tryz.f15 tmps).run Tryz.prog w = .ok (.tuple #[tbV pt nt ct pr nr cr, v3, v4, v5]) w := by
  have q0 : w.cell? ⟨b, 0, none⟩ = some (.slice pt nt ct) := by rw [cell_at h]; rfl
  have q1 : w.cell? ⟨b, 1, none⟩ = some (.slice pr nr cr) := by rw [cell_at h]; rfl
  simp [results, hp, h3, h4, h5, asAddr, go_sem, q0, q1, tbV]
/-- a round's head -/
structure LoAt (w : World) (X : List Rw) (k : Nat) (cv rv : Value) (G : List (Nat × Nat)) (W : World) : Prop where
  cp : Cp w.heap.size W (X.take k) G
  oc : W.ownsRow w.heap.size 41 1 cv k (kW.flat (cellsL G (X.take k)))
  oor : W.ownsRow w.heap.size 41 1 rv k (kW.flat (rowsL G (X.take k)))
  ne : ∀ g, cv.ownBlock = some g → rv.ownBlock ≠ some g
  bel : Below w.heap.size w W
attribute [local go_sem ↓] ldT_is
set_option maxRecDepth 100000 in
set_option maxHeartbeats 16000000 in
theorem loosened_any {w : World} (hP : Kg.Pw w) {pt : Option Addr} {nt ct : Nat} {T : List Int} (hT : T.length = nt) (hct : pt = none → ct = 0) (hLT : Lies kI w pt T) {pr : Option Addr} {nr cr : Nat} {X : List Rw} (hX : X.length = nr) (hLX : Lies kW w pr X) (hR : RwAt w X)
    (hpc : ∀ r ∈ X, r.p = none → r.c = 0) (hnt : nt ≤ 1048576) (hnr : nr ≤ 1048576) (hnx : ∀ r ∈ X, r.n ≤ 1048576) :
    Calls Tryz.prog 15 #[.agg #[.slice pt nt ct, .slice pr nr cr]] w (LoOut w T nt X nr) := by
  obtain ⟨w1, hw1⟩ : ∃ W, W = w.alloc (tbO pt nt ct pr nr cr) := ⟨_, rfl⟩
  obtain ⟨w2, hw2⟩ : ∃ W, W = w1.alloc (.cells #[.slice none 0 0, .slice none 0 0] 36) := ⟨_, rfl⟩
  have b01 : Below w.heap.size w w1 := by rw [hw1]; exact bal (Below.refl _ _) _
  have b12 : Below w1.heap.size w1 w2 := by rw [hw2]; exact bal (Below.refl _ _) _
  have b02 : Below w.heap.size w w2 := b01.trans (b12.mono b01.size)
  have hh1 : w1.heap[w.heap.size]? = some (tbO pt nt ct pr nr cr) := by rw [hw1]; exact heap_new _ _
  have hh2 : w2.heap[w1.heap.size]? = some (.cells #[.slice none 0 0, .slice none 0 0] 36 (0, 0)) := by rw [hw2]; exact heap_new _ _
  have hh12 := (b12.block _ (Array.getElem?_eq_some_iff.1 hh1).1).trans hh1
  have hz1 : w1.heap.size = w.heap.size + 1 := by rw [hw1]; simp
  have HH : Hid (∀ W, Below w2.heap.size w2 W → W.cell? ⟨w.heap.size, 0, none⟩ = some (.slice pt nt ct) ∧ W.cell? ⟨w.heap.size, 1, none⟩ = some (.slice pr nr cr)) := fun W hb => tb_cells ((hb.block _ (Array.getElem?_eq_some_iff.1 hh12).1).trans hh12)
  have HZ : Hid (∀ W, Below w2.heap.size w2 W → W.heap[w1.heap.size]? = some (.cells #[.slice none 0 0, .slice none 0 0] 36 (0, 0))) := fun W hb => (hb.block _ (Array.getElem?_eq_some_iff.1 hh2).1).trans hh2
  obtain ⟨l0, l1⟩ := unhide HH w2 (Below.refl _ _)
  have D0 := hide (Kg.roomI T pt nt ct hT hct hnt w2 (hLT.below b02))
  have HB2 := hide b02
  have hw1' : w.alloc (.cells #[.slice pt nt ct, .slice pr nr cr] 36) = w1 := by rw [hw1]; rfl
  have hw2' := hw2.symm
  have HX := hide hX; have HT := hide hT; have HLX := hide (hLX.below b02); have HR := hide (hR.below b02); have HPC := hide hpc; have HNX := hide hnx; have HP := hide (hP.below b02)
  clear hw1 hw2 b01 b12 b02 hh1 hh2 hh12 hX hT hct hLT hLX hR hpc hnx hP
  go_enter Tryz.func15, Tryz.ntmps15
  go_wp2_with fail
  refine (unhide D0).mono ?_
  rintro e w3 ⟨gt, ct2, rfl, hot, hb3⟩
  have HB3 := hide hb3
  have HOT := hide hot
  obtain ⟨l0, l1⟩ := unhide HH w3 hb3
  clear hot hb3 D0 hw1' hw2'
  go_wp2_with fail
  clear l0 l1
  go_loopw [7, 8, 9] (fun cv rv iv W => ∃ (k : Nat) (K : Int), k ≤ nr ∧ iv = .int .i64 K ∧ K = (k : Int) ∧ (∃ p1 c1, cv = .slice p1 k c1) ∧ (∃ p1 c1, rv = .slice p1 k c1) ∧ Hid (∃ G, LoAt w3 X k cv rv G W)) (fun _ _ iv _ => ((nr : Int) - intOf iv).toNat)
  case atStart => exact ⟨0, 0, by omega, rfl, rfl, ⟨_, _, rfl⟩, ⟨_, _, rfl⟩, [], ⟨rfl, fun i gc r h => by simp at h, fun i j a b h => by simp at h⟩, World.ownsRow_nil _ _ _ _, World.ownsRow_nil _ _ _ _, (fun g h => by cases h), Below.refl _ _⟩
  case round =>
    obtain ⟨wo, rfl⟩ : ∃ x, x = wr := ⟨wr, rfl⟩
    obtain ⟨k, K, hk, rfl, hK, ⟨pc, cc, rfl⟩, ⟨pq, cq, rfl⟩, HA⟩ := hrel
    obtain ⟨G, hA⟩ := unhide HA
    have hbo : Below w2.heap.size w2 wo := (unhide HB3).trans (hA.bel.mono (unhide HB3).size)
    obtain ⟨l0, l1⟩ := unhide HH wo hbo
    by_cases hlt : k < nr
    · have hI : K < (nr : Int) := by omega
      have hK0 : 0 ≤ K := by omega
      have hKt : K.toNat = k := by omega
      have hkX : k < X.length := by have := unhide HX; omega
      obtain ⟨x, hx⟩ : ∃ x, X[k]? = some x := ⟨X[k], List.getElem?_eq_getElem hkX⟩
      have hxm := List.mem_of_getElem? hx
      obtain ⟨b, o, ep, hld⟩ := Kg.ldBR ((unhide HLX).below hbo) hx
      have hc := hld wo (Below.refl _ _)
      have hrx := (unhide HR) x hxm
      have D1 := hide (Kg.roomC x.x x.p x.n x.c hrx.1 (unhide HPC x hxm) (unhide HNX x hxm) wo ((unhide HP).below hbo) (hrx.2.below hbo))
      have HXN := hide hrx.1
      have HLD := hide hld
      have HXK := hide hx; have HK := hide hK; have HBO := hide hbo
      have HAA := hide hA
      have hxn := unhide HNX x hxm
      subst ep
      clear hkX hx hxm hld hrx hK hA hbo
      go_wp2_with fail
      refine (unhide D1).mono ?_
      rintro e w4 ⟨g, cg, rfl, hog, hb4⟩
      have hcap : x.n + 64 ≤ cg := by
        rcases hog.2 with ⟨h1, _⟩ | ⟨g', cap, cur, e1, _, _, h4, _⟩
        · cases h1
        · injection e1 with _ _ e3
          omega
      have hA4 : LoAt w3 X k (.slice pc k cc) (.slice pq k cq) G w4 := ⟨(unhide HAA).cp.below hb4, own_below (unhide HAA).oc hb4, own_below (unhide HAA).oor hb4, (unhide HAA).ne, (unhide HAA).bel.trans (hb4.mono (unhide HAA).bel.size)⟩
      have hGl : G.length = (X.take k).length := (unhide HAA).cp.len
      have hcp : Cp w3.heap.size w4 (X.take (k + 1)) (G ++ [(g, cg)]) := by
        rw [take_up (unhide HXK)]
        refine (unhide HAA).cp.add (unhide HAA).bel.size hb4 ?_
        rw [unhide HXN]
        exact hog
      obtain ⟨p5, c5, w5, r5, o5, q5, n5, b5, k5⟩ := app_side hA4.oc hA4.oor hA4.ne hA4.bel.size (cpc (g, cg) x) (by omega)
      have hcp5 := hcp.keep fun i ys f hi => k5 i ys 43 f hi (by decide)
      obtain ⟨p6, c6, w6, r6, o6, q6, n6, b6, k6⟩ := app_side q5 o5 (fun q hq hq2 => n5 q hq2 hq) (Nat.le_trans hA4.bel.size b5.size) (cpr (g, cg) x) (by omega)
      have hcp6 := hcp5.keep fun i ys f hi => k6 i ys 43 f hi (by decide)
      have HNEW : Hid (∃ G, LoAt w3 X (k + 1) (.slice p5 (k + 1) c5) (.slice p6 (k + 1) c6) G w6) := by
        refine ⟨G ++ [(g, cg)], hcp6, ?_, ?_, fun q hq hq2 => n6 q hq2 hq, (hA4.bel.trans b5).trans b6⟩
        · rw [take_up (unhide HXK), cells_add hGl]
          exact q6
        · rw [take_up (unhide HXK), rows_add hGl]
          exact o6
      have hb25 : Below w2.heap.size w2 w5 := (unhide HB3).trans ((hA4.bel.trans b5).mono (unhide HB3).size)
      obtain ⟨l50, l51⟩ := unhide HH w5 hb25
      have l52 : w5.cell? ⟨b, o + k, none⟩ = some (.slice x.p x.n x.c) := by
        obtain ⟨b', o', e', hl'⟩ := Kg.ldBR (unhide HLX) (unhide HXK)
        injection e' with e'
        injection e' with e1 e2 _
        subst e1 e2
        exact hl' w5 hb25
      unfold cpc at r5
      unfold cpr at r6
      dsimp only at r5 r6
      rw [unhide HXN] at r5 r6
      have HR5 := hide r5; have HR6 := hide r6
      have hcI : (x.n : Int) ≤ (cg : Int) := by omega
      clear hog hb4 hA4 hcp r5 o5 q5 n5 b5 k5 hcp5 r6 o6 q6 n6 b6 k6 hcp6 hb25 D1 l0 l1 hc hGl
      go_wp2_with (at_builtin; first | (refine wpList_append_run rfl _ _ 34 rfl _ _ _ _ rfl rfl (unhide HR5) ?_) | (refine wpList_append_run rfl _ _ 34 rfl _ _ _ _ rfl rfl (unhide HR6) ?_))
      exact ⟨⟨k + 1, K + 1, by omega, by go_num, by have := unhide HK; omega, ⟨_, _, rfl⟩, ⟨_, _, rfl⟩, unhide HNEW⟩, by have := unhide HK; simp [intOf]; omega⟩
    · have hI : ¬ K < (nr : Int) := by omega
      have hkn : k = nr := by omega
      subst hkn
      have HAA := hide hA
      have hrl : Lies kW wo pq (rowsL G X) := by
        have h := (unhide HAA).oor
        rw [List.take_of_length_le (by have := unhide HX; omega)] at h
        exact own_lies kW_ok (by rw [rows_len (by have := (unhide HAA).cp.len; rw [List.take_of_length_le (by have := unhide HX; omega)] at this; exact this), unhide HX]) h
      have hcq : pq = none → cq = 0 := fun e => by
        obtain ⟨p', c', e1, h1, _⟩ := row_slice (unhide HAA).oor
        injection e1 with e2 _ e3
        subst e2 e3
        exact (h1 e).2
      have hGX : G.length = X.length := by have := (unhide HAA).cp.len; rw [List.take_of_length_le (by have := unhide HX; omega)] at this; exact this
      have D2 := hide (Kg.roomR (rowsL G X) pq k cq (by rw [rows_len hGX, unhide HX]) hcq hnr wo hrl)
      have HBO := hide hbo
      clear hA hK hrl hcq hbo
      go_wp2_with fail
      refine (unhide D2).mono ?_
      rintro e w4 ⟨go, co, MR, rfl, hml, hmk, hoo, hb4⟩
      have hbW : Below w2.heap.size w2 w4 := (unhide HBO).trans (hb4.mono (unhide HBO).size)
      have hcap : nt + 64 ≤ ct2 := by
        rcases (unhide HOT).2 with ⟨h1, _⟩ | ⟨g', cap, cur, e1, _, _, h4, _⟩
        · cases h1
        · injection e1 with _ _ e3
          omega
      have hcap2 : k + 64 ≤ co := by
        rcases hoo.2 with ⟨h1, _⟩ | ⟨g', cap, cur, e1, _, _, h4, _⟩
        · cases h1
        · injection e1 with _ _ e3
          omega
      have hcI : (nt : Int) ≤ (ct2 : Int) := by omega
      have hcI2 : (k : Int) ≤ (co : Int) := by omega
      have HW4 := hide hbW
      have hOT4 := own_below (unhide HOT) ((unhide HAA).bel.trans (hb4.mono (unhide HAA).bel.size))
      have hCP4 : Cp w3.heap.size w4 X G := by
        have h := (unhide HAA).cp.below hb4
        rwa [List.take_of_length_le (by have := unhide HX; omega)] at h
      have hOC4 : w4.ownsRow w3.heap.size 41 1 (.slice pc k cc) k (kW.flat (cellsL G X)) := by
        have h := own_below (unhide HAA).oc hb4
        rwa [List.take_of_length_le (by have := unhide HX; omega)] at h
      have HLO : Hid (LoOk w2.heap.size w4 T nt X k gt ct2 go co pc cc G MR) := by
        refine ⟨hOT4, ⟨hCP4.len, fun i gc r h1 h2 => own_mono (hCP4.own i gc r h1 h2) (unhide HB3).size, hCP4.ne⟩, own_mono hOC4 (unhide HB3).size, own_mono hoo (unhide HBO).size, hml, hmk⟩
      clear hoo hb4 hmk hml D2 hOT4 hCP4 hOC4 hbW hGX l0 l1 hcap hcap2
      go_upto_region 11 with fail
      have hs0 := (unhide HH w4.drew ((unhide HW4).trans ((below_drewN (Below.refl _ _) 1).mono (unhide HW4).size))).1
      refine wp_region_last (n := 13) (S := fun W => W.cell? ⟨w.heap.size, 0, none⟩ = some (.slice pt nt ct)) (by kernel_rfl) hs0 (fun hHeld => ?_)
      clear hs0
      refine tkW 0 ?_; refine tkW 1 ?_
      refine tkS 2 ?_ (hy := by (refine Or.inl ⟨by rfl, ?_⟩; intro W hSW; have hA : W.cell? ⟨w.heap.size, 0, none⟩ = some (.slice pt nt ct) := hSW; go_simp; try with_reducible rfl))
      refine tkW 3 ?_
      refine tkW 4 ?_
      refine tkW 5 ?_; refine tkW 6 ?_; refine tkW 7 ?_
      refine tkW 8 ?_
      refine tkW 9 ?_; refine tkW 10 ?_; refine tkW 11 ?_; refine tkW 12 ?_
      clear hHeld
      have hz4 := unhide HZ w4 (unhide HW4)
      rw [hz1] at hz4
      have q0 : w4.cell? ⟨w.heap.size + 1, 0, none⟩ = some (.slice none 0 0) := by rw [cell_at hz4]; rfl
      have q1 : w4.cell? ⟨w.heap.size + 1, 1, none⟩ = some (.slice none 0 0) := by rw [cell_at hz4]; rfl
      have f0 : w4.frozen? ⟨w.heap.size + 1, 0, none⟩ = false := froz_at hz4
      have f1 : w4.frozen? ⟨w.heap.size + 1, 1, none⟩ = false := froz_at hz4
      have HZ4 := hide hz4
      clear hz4
      refine wpAnyL_past (i := 13) (by kernel_rfl) rfl (by kernel_rfl) (fun KK hKK => ?_)
      go_simp
      refine hKK.out _ _ ?_
      clear hKK KK
      refine wpAnyL_past (i := 14) (by kernel_rfl) rfl (by kernel_rfl) (fun KK hKK => ?_)
      go_simp
      refine hKK.out _ _ ?_
      clear hKK KK
      refine wpAnyL_past (i := 15) (by kernel_rfl) rfl (by kernel_rfl) (fun KK hKK => ?_)
      go_simp
      refine hKK.out _ _ ?_
      clear hKK KK
      refine wpAnyL_past (i := 16) (by kernel_rfl) rfl (by kernel_rfl) (fun KK hKK => ?_)
      go_simp
      refine hKK.out _ _ ?_
      clear hKK KK
      refine wpAnyL_done (by kernel_rfl) ?_
      go_wp2_with fail
      have hW : ∀ (kk : Nat) (ys : Array Value) (t : TypeId) (f : Nat × Nat), w4.heap[kk]? = some (Obj.cells ys t f) → t ≠ 36 → (((w4.setCell ⟨w.heap.size + 1, 0, none⟩ (.slice (some ⟨gt, 0, none⟩) nt ct2)).setCell ⟨w.heap.size + 1, 1, none⟩ (.slice (some ⟨go, 0, none⟩) k co)).drew).heap[kk]? = w4.heap[kk]? := fun kk ys t f hkk ht => by
        have hne : kk ≠ w.heap.size + 1 := fun e => by
          rw [e, unhide HZ4] at hkk
          injection hkk with hkk
          injection hkk with _ h5 _
          exact ht h5.symm
        exact (Below.heap_setCell _ _ _ _ (fun e => hne e)).trans (Below.heap_setCell _ _ _ _ (fun e => hne e))
      refine bodyPost_ret (retT (b := w.heap.size + 1) (by rfl) (by rfl) (by rfl) (by rfl) ?_) rfl ⟨gt, ct2, go, co, pc, cc, G, MR, rfl, ((unhide HLO).mono (unhide HB2).size).move hW, ?_⟩
      · exact Go.heap_setCell_same _ _ _ _ _ _ (Go.heap_setCell_same _ _ _ _ _ _ (unhide HZ4))
      · exact below_drewN ((((unhide HB2).trans ((unhide HW4).mono (unhide HB2).size)).setCell (p := ⟨w.heap.size + 1, 0, none⟩) (Nat.le_succ _) _).setCell (p := ⟨w.heap.size + 1, 1, none⟩) (Nat.le_succ _) _) 1
end Go.Proofs.YtcafhmlpmbkhkaaGreatDoor
/- Does a table still show what it was made of (18)? -/
namespace Go.Proofs.YtcafhmlpmbkhkaaGreatDoor
open Go Go.Shelf Go.ChangeShapes Go.WideShapes Go.ChangeAt Go.RowKit Go.Maps
set_option linter.unusedVariables false
set_option linter.unusedSimpArgs false
theorem map_x {X Y : List Rw} (h : Y.map (·.x) = X.map (·.x)) {k : Nat} {y x : Rw} (hy : Y[k]? = some y) (hx : X[k]? = some x) : y.x = x.x := by
  have h1 := congrArg (·[k]?) h
  simp only [List.getElem?_map, hy, hx, Option.map_some] at h1
  exact Option.some.inj h1
theorem map_len {X Y : List Rw} (h : Y.map (·.x) = X.map (·.x)) : Y.length = X.length := by
  have := congrArg List.length h
  simpa using this
set_option maxRecDepth 100000 in
set_option maxHeartbeats 16000000 in
theorem kept_any {B : Nat} {w : World} (hP : Kg.Pw w) {pt : Option Addr} {nt ct : Nat} {T : List Int} (hT : T.length = nt) (hLT : Lies kI w pt T) {pr : Option Addr} {nr cr : Nat} {X : List Rw} (hX : X.length = nr) (hLX : Lies kW w pr X) (hR : RwAt w X)
    (hnt : nt ≤ 1048576) (hnr : nr ≤ 1048576) (hnx : ∀ r ∈ X, r.n ≤ 1048576) {gt ct2 go co : Nat} {pl : Option Addr} {cl : Nat} {G : List (Nat × Nat)} {MR Y : List Rw} (hY : Y.map (·.x) = X.map (·.x)) (hlo : LoOk B w T nt Y nr gt ct2 go co pl cl G MR) :
    Calls Tryz.prog 18 #[.agg #[.slice pt nt ct, .slice pr nr cr], .slice (some ⟨gt, 0, none⟩) (nt + 64) ct2, .slice pl nr cl, .slice (some ⟨go, 0, none⟩) (nr + 64) co] w fun e w' => e = .returned (.bool true) ∧ Below w.heap.size w w' := by
  obtain ⟨w1, hw1⟩ : ∃ W, W = w.alloc (tbO pt nt ct pr nr cr) := ⟨_, rfl⟩
  have b01 : Below w.heap.size w w1 := by rw [hw1]; exact bal (Below.refl _ _) _
  have hh1 : w1.heap[w.heap.size]? = some (tbO pt nt ct pr nr cr) := by rw [hw1]; exact heap_new _ _
  have HH : Hid (∀ W, Below w1.heap.size w1 W → W.cell? ⟨w.heap.size, 0, none⟩ = some (.slice pt nt ct) ∧ W.cell? ⟨w.heap.size, 1, none⟩ = some (.slice pr nr cr)) := fun W hb => tb_cells ((hb.block _ (Array.getElem?_eq_some_iff.1 hh1).1).trans hh1)
  obtain ⟨l0, l1⟩ := unhide HH w1 (Below.refl _ _)
  have hYl : Y.length = nr := by rw [map_len hY, hX]
  have hGl : G.length = Y.length := hlo.cp.len
  have D0 := hide (Kg.keptI T pt (some ⟨gt, 0, none⟩) nt ct ct2 hT (by omega) w1 (hLT.below b01) ((own_lies kI_ok (by rw [List.length_append, Kg.mklI_len, hT]) hlo.ot).below b01))
  have D1 : Hid (∀ W, Below w1.heap.size w1 W → Calls Tryz.prog 72 #[.slice (some ⟨go, 0, none⟩) (nr + 64) co, .slice pr nr cr] W fun e w' => e = .returned (.bool true) ∧ Below W.heap.size W w') := fun W hb => by
    have hbw := b01.trans (hb.mono b01.size)
    refine Kg.keptR (rowsL G Y) X MR pr (some ⟨go, 0, none⟩) nr cr co hX (by rw [rows_len hGl, hYl]) (fun k y x hy hx => ?_) hlo.ml (by omega) W (hLX.below hbw) ((own_lies kW_ok (by rw [List.length_append, rows_len hGl, hYl, hlo.ml]) hlo.oo).below hbw) (hR.below hbw) (hlo.cp.rows.below hbw) (hlo.mks.below hbw)
    exact map_x ((rows_x hGl).trans hY) hy hx
  have D2 : Hid (∀ W, Below w1.heap.size w1 W → ∀ (k : Nat) gc x, G[k]? = some gc → X[k]? = some x → Calls Tryz.prog 73 #[.slice (some ⟨gc.1, 0, none⟩) (x.n + 64) gc.2, .slice x.p x.n x.c] W fun e w' => e = .returned (.bool true) ∧ Below W.heap.size W w') := fun W hb k gc x hg hx => by
    have hbw := b01.trans (hb.mono b01.size)
    obtain ⟨y, hy⟩ : ∃ y, Y[k]? = some y := ⟨Y[k]'(by have := (List.getElem?_eq_some_iff.1 hx).1; omega), List.getElem?_eq_getElem _⟩
    have exy := map_x hY hy hx
    have hxr := hR x (List.mem_of_getElem? hx)
    have ho := hlo.cp.own k gc y hg hy
    rw [exy] at ho
    refine Kg.keptC x.x x.p (some ⟨gc.1, 0, none⟩) x.n x.c gc.2 hxr.1 (by have := hnx x (List.mem_of_getElem? hx); omega) W (hP.below hbw) (hxr.2.below hbw) ?_
    exact (own_lies kC_ok (by rw [List.length_append, Kg.mklC_len]) ho).below hbw
  have HLX : Hid (∀ (k : Nat) x, X[k]? = some x → ∃ b o, pr = some ⟨b, o, none⟩ ∧ ∀ W, Below w1.heap.size w1 W → W.cell? ⟨b, o + k, none⟩ = some (.slice x.p x.n x.c)) := fun k x hx => Kg.ldBR (hLX.below b01) hx
  have HLC : Hid (∀ (k : Nat) gc x, G[k]? = some gc → X[k]? = some x → ∃ b o, pl = some ⟨b, o, none⟩ ∧ ∀ W, Below w1.heap.size w1 W → W.cell? ⟨b, o + k, none⟩ = some (.slice (some ⟨gc.1, 0, none⟩) (x.n + 64) gc.2)) := fun k gc x hg hx => by
    obtain ⟨y, hy⟩ : ∃ y, Y[k]? = some y := ⟨Y[k]'(by have := (List.getElem?_eq_some_iff.1 hx).1; omega), List.getElem?_eq_getElem _⟩
    have hcl : Lies kW w pl (cellsL G Y) := own_lies kW_ok (by rw [cells_len hGl, hYl]) hlo.oc
    have hq : (cellsL G Y)[k]? = some (cpc gc y) := by
      unfold cellsL
      rw [List.getElem?_zipWith_eq_some]
      exact ⟨gc, y, hg, hy, rfl⟩
    obtain ⟨b, o, e, h⟩ := Kg.ldBR (hcl.below b01) hq
    refine ⟨b, o, e, fun W hW => ?_⟩
    have h2 := h W hW
    unfold cpc at h2
    dsimp only at h2
    rw [map_x hY hy hx, (hR x (List.mem_of_getElem? hx)).1] at h2
    exact h2
  have HB1 := hide b01
  have HXL := hide hX
  have HGL : Hid (G.length = nr) := by show _ = _; omega
  have hw1' : w.alloc (.cells #[.slice pt nt ct, .slice pr nr cr] 36) = w1 := by rw [hw1]; rfl
  clear hw1 b01 hh1 hYl hGl hT hLT hX hLX hR hY hlo hP hnx
  go_enter Tryz.func18, Tryz.ntmps18
  go_wp2_with (go_at_call 71; refine (unhide D0).mono ?_; rintro e w2 ⟨rfl, hb2⟩; have HB2 := hide hb2; have dr := hide (unhide D1 w2 hb2); obtain ⟨l20, l21⟩ := unhide HH w2 hb2; clear hb2 l0 l1)
  refine (unhide dr).mono ?_
  rintro e w3 ⟨rfl, hb3⟩
  have HB3 : Hid (Below w1.heap.size w1 w3) := (unhide HB2).trans (hb3.mono (unhide HB2).size)
  clear hb3 dr l20 l21 D0 D1 hw1'
  go_wp2_with fail
  go_loopw [9] (fun iv W => ∃ (k : Nat) (K : Int), k ≤ nr ∧ iv = .int .i64 K ∧ K = (k : Int) ∧ Hid (Below w1.heap.size w1 W)) (fun iv _ => ((nr : Int) - intOf iv).toNat)
  case atStart => exact ⟨0, 0, by omega, rfl, rfl, unhide HB3⟩
  case round =>
    obtain ⟨wo, rfl⟩ : ∃ x, x = wr := ⟨wr, rfl⟩
    obtain ⟨k, K, hk, rfl, hK, HA⟩ := hrel
    by_cases hlt : k < nr
    · have hI : K < (nr : Int) := by omega
      have hK0 : 0 ≤ K := by omega
      have hKt : K.toNat = k := by omega
      obtain ⟨x, hx⟩ : ∃ x, X[k]? = some x := ⟨X[k]'(by have := unhide HXL; omega), List.getElem?_eq_getElem _⟩
      obtain ⟨gc, hg⟩ : ∃ gc, G[k]? = some gc := ⟨G[k]'(by have := unhide HGL; omega), List.getElem?_eq_getElem _⟩
      obtain ⟨b1, o1, e1, r1⟩ := unhide HLX k x hx
      obtain ⟨b2, o2, e2, r2⟩ := unhide HLC k gc x hg hx
      have x0 : ∀ P : Kg.Bel wo, P.W.cell? ⟨b1, o1 + k, none⟩ = some (.slice x.p x.n x.c) := fun P => r1 P.W ((unhide HA).trans (P.h.mono (unhide HA).size))
      have x1 : ∀ P : Kg.Bel wo, P.W.cell? ⟨b2, o2 + k, none⟩ = some (.slice (some ⟨gc.1, 0, none⟩) (x.n + 64) gc.2) := fun P => r2 P.W ((unhide HA).trans (P.h.mono (unhide HA).size))
      have x2 : ∀ P : Kg.Bel wo, P.W.cell? ⟨w.heap.size, 1, none⟩ = some (.slice pr nr cr) := fun P => (unhide HH P.W ((unhide HA).trans (P.h.mono (unhide HA).size))).2
      have DD : Hid (∀ P : Kg.Bel wo, Calls Tryz.prog 73 #[.slice (some ⟨gc.1, 0, none⟩) (x.n + 64) gc.2, .slice x.p x.n x.c] P.W fun e w' => e = .returned (.bool true) ∧ ∃ q : Kg.Bel wo, w' = q.W) := fun P =>
        (unhide D2 P.W ((unhide HA).trans (P.h.mono (unhide HA).size)) k gc x hg hx).mono fun e w' ⟨h1, h2⟩ => ⟨h1, ⟨w', P.h.trans (h2.mono P.h.size)⟩, rfl⟩
      have HK := hide hK
      rw [e1] at x2
      subst e1 e2
      clear r1 r2 hx hg hK hlt
      go_wp2_with fail
      refine Kg.wp_region_quiet_below (by kernel_rfl) (by kernel_rfl) ?_
      repeat (go_big_quiet_step (first | (go_at_call 73; refine unhide DD _)))
      refine wpQuiet_nil ?_
      rintro _ ⟨P, rfl⟩
      have HN : Hid (Below w1.heap.size w1 P.W) := (unhide HA).trans (P.h.mono (unhide HA).size)
      clear x0 x1 x2 DD
      go_wp2_with fail
      exact ⟨⟨k + 1, K + 1, by omega, by go_num, by have := unhide HK; omega, unhide HN⟩, by have := unhide HK; simp [intOf]; omega⟩
    · have hI : ¬ K < (nr : Int) := by omega
      have HN : Hid (Below w.heap.size w wo) := (unhide HB1).trans ((unhide HA).mono (unhide HB1).size)
      clear hK
      go_wp2_with fail
      go_ret
      exact ⟨rfl, unhide HN⟩
end Go.Proofs.YtcafhmlpmbkhkaaGreatDoor
/- A table in memory of its own (19). -/
namespace Go.Proofs.YtcafhmlpmbkhkaaGreatDoor
open Go Go.Shelf Go.ChangeShapes Go.WideShapes Go.ChangeAt Go.RowKit Go.Maps
set_option linter.unusedVariables false
set_option linter.unusedSimpArgs false
/-- rows that own their cells -/
def RcAt (B : Nat) (W : World) (Y : List Rw) : Prop := ∀ y ∈ Y, y.x.length = y.n ∧ W.ownsRow B 43 3 (.slice y.p y.n y.c) y.n (kC.flat y.x)
theorem RcAt.rw {B : Nat} {W : World} {Y : List Rw} (h : RcAt B W Y) : RwAt W Y := fun y hy => ⟨(h y hy).1, own_lies kC_ok (h y hy).1 (h y hy).2⟩
theorem RcAt.keep {B : Nat} {W W' : World} {Y : List Rw} (h : RcAt B W Y) (hk : ∀ (k : Nat) (ys : Array Value) (f : Nat × Nat), W.heap[k]? = some (Obj.cells ys 43 f) → W'.heap[k]? = W.heap[k]?) : RcAt B W' Y := fun y hy =>
  ⟨(h y hy).1, row_keep (h y hy).2 fun g hg => by
    obtain ⟨ys, hh⟩ := own_obj (h y hy).2 hg
    exact hk g ys _ hh⟩
/-- what it hands back -/
def CopOut (w : World) (T : List Int) (nt : Nat) (X : List Rw) (nr : Nat) (e : Ending) (w' : World) : Prop :=
  ∃ pt ct pr cr Y, e = .returned (tbV pt nt ct pr nr cr) ∧ Lies kI w' pt T ∧ Lies kW w' pr Y ∧ RwAt w' Y ∧ Y.map (·.x) = X.map (·.x) ∧ Below w.heap.size w w'
/-- a round's head -/
structure CoAt (w : World) (b : Nat) (pt : Option Addr) (nt ct : Nat) (T : List Int) (X : List Rw) (k : Nat) (W : World) : Prop where
  ex : ∃ p c Y, W.heap[b]? = some (tbO pt nt ct p k c) ∧ W.ownsRow w.heap.size 41 1 (.slice p k c) k (kW.flat Y) ∧ RcAt w.heap.size W Y ∧ Y.map (·.x) = (X.take k).map (·.x)
  ot : W.ownsRow w.heap.size 3 1 (.slice pt nt ct) nt (kI.flat T)
  bel : Below w.heap.size w W
theorem retCop {tmps : Array Value} {w : World} {b : Nat} {pt pr : Option Addr} {nt ct nr cr : Nat} (hp : tmps[2]?.getD undef = .pointer (some ⟨b, 0, none⟩)) (h : w.heap[b]? = some (.cells #[.slice pt nt ct, .slice pr nr cr] 36 (0, 0))) :
    (results Tryz.f19 tmps).run Tryz.prog w = .ok (tbV pt nt ct pr nr cr) w := by
  have q0 : w.cell? ⟨b, 0, none⟩ = some (.slice pt nt ct) := by rw [cell_at h]; rfl
  have q1 : w.cell? ⟨b, 1, none⟩ = some (.slice pr nr cr) := by rw [cell_at h]; rfl
  simp [results, hp, asAddr, go_sem, q0, q1, tbV]
attribute [local go_sem ↓] ldT_is
set_option maxRecDepth 100000 in
set_option maxHeartbeats 16000000 in
theorem copied_any {w : World} {pt : Option Addr} {nt ct : Nat} {T : List Int} (hT : T.length = nt) (hct : pt = none → ct = 0) (hLT : Lies kI w pt T) {pr : Option Addr} {nr cr : Nat} {X : List Rw} (hX : X.length = nr) (hLX : Lies kW w pr X) (hR : RwAt w X)
    (hpc : ∀ r ∈ X, r.p = none → r.c = 0) (hnt : nt ≤ 1048576) (hnr : nr ≤ 1048576) (hnx : ∀ r ∈ X, r.n ≤ 1048576) :
    Calls Tryz.prog 19 #[.agg #[.slice pt nt ct, .slice pr nr cr]] w (CopOut w T nt X nr) := by
  obtain ⟨w1, hw1⟩ : ∃ W, W = w.alloc (tbO pt nt ct pr nr cr) := ⟨_, rfl⟩
  obtain ⟨w2, hw2⟩ : ∃ W, W = w1.alloc (.cells #[.slice none 0 0, .slice none 0 0] 36) := ⟨_, rfl⟩
  obtain ⟨w3, hw3⟩ : ∃ W, W = w2.alloc (.cells #[] 3) := ⟨_, rfl⟩
  have b01 : Below w.heap.size w w1 := by rw [hw1]; exact bal (Below.refl _ _) _
  have b12 : Below w1.heap.size w1 w2 := by rw [hw2]; exact bal (Below.refl _ _) _
  have b02 : Below w.heap.size w w2 := b01.trans (b12.mono b01.size)
  have b23 : Below w2.heap.size w2 w3 := by rw [hw3]; exact bal (Below.refl _ _) _
  have b03 : Below w.heap.size w w3 := b02.trans (b23.mono b02.size)
  have hh1 : w1.heap[w.heap.size]? = some (tbO pt nt ct pr nr cr) := by rw [hw1]; exact heap_new _ _
  have hh2 : w2.heap[w1.heap.size]? = some (.cells #[.slice none 0 0, .slice none 0 0] 36 (0, 0)) := by rw [hw2]; exact heap_new _ _
  have hh12 := (b12.block _ (Array.getElem?_eq_some_iff.1 hh1).1).trans hh1
  have hz1 : w1.heap.size = w.heap.size + 1 := by rw [hw1]; simp
  have hz2 : w2.heap.size = w.heap.size + 2 := by rw [hw2]; simp [hz1]
  have HH : Hid (∀ W, Below w2.heap.size w2 W → W.cell? ⟨w.heap.size, 0, none⟩ = some (.slice pt nt ct) ∧ W.cell? ⟨w.heap.size, 1, none⟩ = some (.slice pr nr cr)) := fun W hb => tb_cells ((hb.block _ (Array.getElem?_eq_some_iff.1 hh12).1).trans hh12)
  have HZ : Hid (∀ W, Below w2.heap.size w2 W → W.heap[w1.heap.size]? = some (.cells #[.slice none 0 0, .slice none 0 0] 36 (0, 0))) := fun W hb => (hb.block _ (Array.getElem?_eq_some_iff.1 hh2).1).trans hh2
  obtain ⟨l0, l1⟩ := unhide HH w3 b23
  have hol : w3.ownsRow w2.heap.size 3 1 (.slice (some ⟨w2.heap.size, 0, none⟩) 0 0) 0 (kI.flat []) := by rw [hw3]; exact Kg.own_lit0I w2
  obtain ⟨p5, c5, w5, r5, o5, b5, _⟩ := run_app (K := kI) kI_ok (L := []) (M := T) 33 hol b23.size pt ct hct (hLT.below b03) (by rw [hT]; omega)
  rw [hT, Nat.zero_add] at r5 o5
  rw [List.nil_append] at o5
  have hb25 : Below w2.heap.size w2 w5 := b23.trans b5
  obtain ⟨w6, hw6⟩ : ∃ W, W = w5.alloc (tbO p5 nt c5 none 0 0) := ⟨_, rfl⟩
  have b56 : Below w5.heap.size w5 w6 := by rw [hw6]; exact bal (Below.refl _ _) _
  have hh6 : w6.heap[w5.heap.size]? = some (tbO p5 nt c5 none 0 0) := by rw [hw6]; exact heap_new _ _
  obtain ⟨tb, htb⟩ : ∃ b, b = w5.heap.size := ⟨_, rfl⟩
  have HS : Hid (CoAt w2 tb p5 nt c5 T X 0 w6) := by
    rw [htb]
    exact ⟨⟨none, 0, [], hh6, World.ownsRow_nil _ _ _ _, fun y hy => by simp at hy, by simp⟩, own_below o5 b56, hb25.trans (b56.mono hb25.size)⟩
  have HTB : Hid (w2.heap.size ≤ tb) := by rw [htb]; exact hb25.size
  rw [hz2] at r5
  have HR5 := hide r5
  have HB2 := hide b02
  have hw1' : w.alloc (.cells #[.slice pt nt ct, .slice pr nr cr] 36) = w1 := by rw [hw1]; rfl
  have hw2' := hw2.symm
  have hw3' := hw3.symm
  have HW6 : Hid (w5.alloc (.cells #[.slice p5 nt c5, .slice none 0 0] 36) = w6) := by show _ = _; rw [hw6]; rfl
  have HX := hide hX; have HT := hide hT; have HLX := hide (hLX.below b02); have HR := hide (hR.below b02); have HPC := hide hpc; have HNX := hide hnx
  have HTBE := hide htb
  clear hw1 hw2 hw3 hw6 b01 b12 b02 b23 b03 hh1 hh2 hh12 hX hT hct hLT hLX hR hpc hnx hol r5 o5 b5 hb25 b56 hh6
  go_enter Tryz.func19, Tryz.ntmps19
  go_wp2_with (at_builtin; refine wpList_append_run rfl _ _ 33 rfl _ _ _ _ rfl rfl (unhide HR5) ?_)
  rw [unhide HW6, ← htb]
  clear htb l0 l1 hw1' hw2' hw3'
  go_loopw [4] (fun iv W => ∃ (k : Nat) (K : Int), k ≤ nr ∧ iv = .int .i64 K ∧ K = (k : Int) ∧ Hid (CoAt w2 tb p5 nt c5 T X k W)) (fun iv _ => ((nr : Int) - intOf iv).toNat)
  case atStart => exact ⟨0, 0, by omega, rfl, rfl, unhide HS⟩
  case round =>
    obtain ⟨wo, rfl⟩ : ∃ x, x = wr := ⟨wr, rfl⟩
    obtain ⟨k, K, hk, rfl, hK, HA⟩ := hrel
    obtain ⟨l0, l1⟩ := unhide HH wo (unhide HA).bel
    by_cases hlt : k < nr
    · have hI : K < (nr : Int) := by omega
      have hK0 : 0 ≤ K := by omega
      have hKt : K.toNat = k := by omega
      obtain ⟨x, hx⟩ : ∃ x, X[k]? = some x := ⟨X[k]'(by have := unhide HX; omega), List.getElem?_eq_getElem _⟩
      have hxm := List.mem_of_getElem? hx
      obtain ⟨b, o, ep, hld⟩ := Kg.ldBR (unhide HLX) hx
      obtain ⟨pq, cq, Y, htb, hoq, hrc, hyx⟩ := (unhide HA).ex
      have hrx := (unhide HR) x hxm
      have hxn := unhide HNX x hxm
      have hxc := unhide HPC x hxm
      obtain ⟨wd, hwd⟩ : ∃ W, W = wo.drew := ⟨_, rfl⟩
      have bd : Below wo.heap.size wo wd := by rw [hwd]; exact below_drewN (Below.refl _ _) 1
      have hb2d : Below w2.heap.size w2 wd := (unhide HA).bel.trans (bd.mono (unhide HA).bel.size)
      obtain ⟨wA, hwA⟩ : ∃ W, W = wd.alloc (.cells #[] 43) := ⟨_, rfl⟩
      have bA : Below wd.heap.size wd wA := by rw [hwA]; exact bal (Below.refl _ _) _
      have hb2A : Below w2.heap.size w2 wA := hb2d.trans (bA.mono hb2d.size)
      have holA : wA.ownsRow wd.heap.size 43 3 (.slice (some ⟨wd.heap.size, 0, none⟩) 0 0) 0 (kC.flat []) := by rw [hwA]; exact Kg.own_lit0C wd
      obtain ⟨pB, cB, wB, rB, oB, bB, _⟩ := run_app (K := kC) kC_ok (L := []) (M := x.x) 41 holA bA.size x.p x.c hxc (hrx.2.below hb2A) (by rw [hrx.1]; omega)
      rw [hrx.1, Nat.zero_add] at rB oB
      rw [List.nil_append] at oB
      have bdB : Below wd.heap.size wd wB := bA.trans bB
      have hbB : Below wo.heap.size wo wB := bd.trans (bdB.mono bd.size)
      have hb2B : Below w2.heap.size w2 wB := hb2d.trans (bdB.mono hb2d.size)
      obtain ⟨wC, hwC⟩ : ∃ W, W = wB.alloc (.cells #[.slice pB x.n cB] 41) := ⟨_, rfl⟩
      have bC : Below wB.heap.size wB wC := by rw [hwC]; exact bal (Below.refl _ _) _
      have hb2C : Below w2.heap.size w2 wC := hb2B.trans (bC.mono hb2B.size)
      obtain ⟨pD, cD, wD, rD, oD, _, _, bD, kD⟩ := app_side (L2 := []) (u := .slice none 0 0) (m := 0) (own_below hoq hbB) (World.ownsRow_nil _ _ _ _) (fun g _ h => by cases h) (Nat.le_trans (unhide HA).bel.size hbB.size) (⟨pB, x.n, cB, x.x⟩ : Rw) (by omega)
      dsimp only at rD
      rw [← hwC] at rD
      have hb2D : Below w2.heap.size w2 wD := hb2B.trans bD
      have htbB := (hbB.block _ (Array.getElem?_eq_some_iff.1 htb).1).trans htb
      have htbD : wD.heap[tb]? = some (tbO p5 nt c5 pq k cq) := (kD tb _ 36 (0, 0) htbB (by decide)).trans htbB
      have hrcD : RcAt w2.heap.size wD (Y ++ [(⟨pB, x.n, cB, x.x⟩ : Rw)]) := by
        have h1 : RcAt w2.heap.size wB (Y ++ [(⟨pB, x.n, cB, x.x⟩ : Rw)]) := fun y hy => by
          rcases List.mem_append.1 hy with hy | hy
          · exact ⟨(hrc y hy).1, own_below (hrc y hy).2 hbB⟩
          · rw [List.mem_singleton] at hy
            subst hy
            exact ⟨hrx.1, own_mono oB hb2d.size⟩
        exact h1.keep fun q ys f hq => kD q ys 43 f hq (by decide)
      have HWE : Hid (CoAt w2 tb p5 nt c5 T X (k + 1) (wD.setCell ⟨tb, 1, none⟩ (.slice pD (k + 1) cD))) := by
        have hset : ∀ (q : Nat), q ≠ tb → (wD.setCell ⟨tb, 1, none⟩ (.slice pD (k + 1) cD)).heap[q]? = wD.heap[q]? := fun q hq => Below.heap_setCell _ _ _ _ hq
        have hty : ∀ (q : Nat) (ys : Array Value) (t : TypeId) (f : Nat × Nat), wD.heap[q]? = some (Obj.cells ys t f) → t ≠ 36 → (wD.setCell ⟨tb, 1, none⟩ (.slice pD (k + 1) cD)).heap[q]? = wD.heap[q]? := fun q ys t f hq ht => hset q (fun e => by
          subst e
          rw [htbD] at hq
          injection hq with hq
          injection hq with _ h5 _
          exact ht h5.symm)
        refine ⟨⟨pD, cD, Y ++ [(⟨pB, x.n, cB, x.x⟩ : Rw)], ?_, ?_, hrcD.keep fun q ys f hq => hty q ys 43 f hq (by decide), ?_⟩, ?_, ?_⟩
        · unfold tbO at htbD ⊢
          exact heap_set1 htbD
        · exact row_keep oD fun g hg => by
            obtain ⟨ys, hh⟩ := own_obj oD hg
            exact hty g ys 41 _ hh (by decide)
        · rw [List.map_append, hyx, take_up hx, List.map_append]
          rfl
        · have hoB := own_below (unhide HA).ot hbB
          have hoD : wD.ownsRow w2.heap.size 3 1 (.slice p5 nt c5) nt (kI.flat T) := row_keep hoB fun g hg => by
            obtain ⟨ys, hh⟩ := own_obj hoB hg
            exact kD g ys 3 _ hh (by decide)
          exact row_keep hoD fun g hg => by
            obtain ⟨ys, hh⟩ := own_obj hoD hg
            exact hty g ys 3 _ hh (by decide)
        · exact hb2D.setCell (p := ⟨tb, 1, none⟩) (unhide HTB) _
      have HSS : Hid (∀ W, Below w2.heap.size w2 W → W.heap[tb]? = some (tbO p5 nt c5 pq k cq) → W.cell? ⟨tb, 1, none⟩ = some (.slice pq k cq) ∧ W.cell? ⟨w.heap.size, 1, none⟩ = some (.slice pr nr cr) ∧ W.cell? ⟨b, o + k, none⟩ = some (.slice x.p x.n x.c)) := fun W hW hh => ⟨(tb_cells hh).2, (unhide HH W hW).2, hld W hW⟩
      have htd := (bd.block _ (Array.getElem?_eq_some_iff.1 htb).1).trans htb
      have sd := unhide HSS wd hb2d htd
      have SA := hide (unhide HSS wA hb2A ((bA.block _ (Array.getElem?_eq_some_iff.1 htd).1).trans htd))
      have SB := hide (unhide HSS wB hb2B htbB)
      have SC := hide (unhide HSS wC hb2C ((bC.block _ (Array.getElem?_eq_some_iff.1 htbB).1).trans htbB))
      have SD := hide (unhide HSS wD hb2D htbD)
      have c1 : wD.cell? ⟨tb, 1, none⟩ = some (.slice pq k cq) := (tb_cells htbD).2
      have f1 : wD.frozen? ⟨tb, 1, none⟩ = false := by unfold tbO at htbD; exact froz_at htbD
      have HRB := hide rB; have HRD := hide rD; have HK := hide hK; have HWA := hide hwA; have HWC := hide hwC; have HWD := hide hwd
      subst ep
      clear bd hb2d bA hb2A holA rB oB bB bdB hbB hb2B bC hb2C rD oD bD kD hb2D htbB htbD hrcD htd hrx hxm hx hld htb hoq hrc hyx hK hwA hwC l0 hlt
      have sd0 := sd
      rw [hwd] at sd0
      go_upto_region 5 with fail
      refine wp_region_last (n := 12) (S := fun W => W.cell? ⟨tb, 1, none⟩ = some (.slice pq k cq) ∧ W.cell? ⟨w.heap.size, 1, none⟩ = some (.slice (some ⟨b, o, none⟩) nr cr) ∧ W.cell? ⟨b, o + k, none⟩ = some (.slice x.p x.n x.c)) (by kernel_rfl) sd0 (fun hHeld => ?_)
      clear hHeld sd0
      rw [← hwd]
      clear hwd
      refine tkW 0 ?_
      refine tkS 1 ?_ (hy := by (refine Or.inl ⟨by rfl, ?_⟩; intro W hSW; obtain ⟨hA, hB, hC⟩ := hSW; go_simp; try with_reducible rfl))
      refine tkW 3 ?_
      refine tkS 4 ?_ (hy := by (refine Or.inl ⟨by rfl, ?_⟩; intro W hSW; obtain ⟨hA, hB, hC⟩ := hSW; go_simp; try with_reducible rfl))
      refine tkW 5 ?_
      refine tkW 6 ?_
      refine tkS 7 ?_ (hy := by (refine Or.inl ⟨by rfl, ?_⟩; intro W hSW; obtain ⟨hA, hB, hC⟩ := hSW; go_simp; try with_reducible rfl))
      refine wpAnyL_one (i := 2) (by kernel_rfl) rfl (fun KK hKK => ?_)
      go_simp
      rw [← unhide HWA]
      refine hKK.out _ _ (unhide SA) (fun hHeld => ?_)
      clear hKK KK sd
      refine wpAnyL_one (i := 8) (by kernel_rfl) rfl (fun KK hKK => ?_)
      refine step_append_run _ (by rfl) _ _ 41 (by rfl) _ _ _ _ (by rfl) (by rfl) (unhide HRB) ?_
      refine hKK.out _ _ (unhide SB) (fun hHeld => ?_)
      clear hKK KK
      refine wpAnyL_one (i := 9) (by kernel_rfl) rfl (fun KK hKK => ?_)
      go_simp
      rw [← unhide HWC]
      refine hKK.out _ _ (unhide SC) (fun hHeld => ?_)
      clear hKK KK
      refine wpAnyL_one (i := 10) (by kernel_rfl) rfl (fun KK hKK => ?_)
      refine step_append_run _ (by rfl) _ _ 34 (by rfl) _ _ _ _ (by rfl) (by rfl) (unhide HRD) ?_
      refine hKK.out _ _ (unhide SD) (fun hHeld => ?_)
      clear hKK KK
      refine tkW 11 ?_
      clear hHeld
      refine wpAnyL_past (i := 12) (by kernel_rfl) rfl (by kernel_rfl) (fun KK hKK => ?_)
      go_simp
      refine hKK.out _ _ ?_
      clear hKK KK
      refine wpAnyL_done (by kernel_rfl) ?_
      go_wp2_with fail
      exact ⟨⟨k + 1, K + 1, by omega, by go_num, by have := unhide HK; omega, unhide HWE⟩, by have := unhide HK; simp [intOf]; omega⟩
    · have hI : ¬ K < (nr : Int) := by omega
      have hkn : k = nr := by omega
      subst hkn
      obtain ⟨pq, cq, Y, htb, hoq, hrc, hyx⟩ := (unhide HA).ex
      rw [List.take_of_length_le (by have := unhide HX; omega)] at hyx
      have hbo := (unhide HA).bel
      have hld := run_ldT htb
      unfold tbV at hld
      have hz4 := unhide HZ wo hbo
      rw [hz1] at hz4
      have q0 : wo.cell? ⟨w.heap.size + 1, 0, none⟩ = some (.slice none 0 0) := by rw [cell_at hz4]; rfl
      have q1 : wo.cell? ⟨w.heap.size + 1, 1, none⟩ = some (.slice none 0 0) := by rw [cell_at hz4]; rfl
      have f0 : wo.frozen? ⟨w.heap.size + 1, 0, none⟩ = false := froz_at hz4
      have f1 : wo.frozen? ⟨w.heap.size + 1, 1, none⟩ = false := froz_at hz4
      have HZ4 := hide hz4
      have HYL : Hid (Y.length = k) := by show _ = _; rw [map_len hyx, unhide HX]
      have HOQ := hide hoq; have HRC := hide hrc; have HYX := hide hyx; have HOT := hide (unhide HA).ot; have HBO := hide hbo
      clear hz4 hoq hrc hyx hbo htb hK HA
      go_wp2_with fail
      have hW : ∀ (kk : Nat) (ys : Array Value) (t : TypeId) (f : Nat × Nat), wo.heap[kk]? = some (Obj.cells ys t f) → t ≠ 36 → ((wo.setCell ⟨w.heap.size + 1, 0, none⟩ (.slice p5 nt c5)).setCell ⟨w.heap.size + 1, 1, none⟩ (.slice pq k cq)).heap[kk]? = wo.heap[kk]? := fun kk ys t f hkk ht => by
        have hne : kk ≠ w.heap.size + 1 := fun e => by
          rw [e, unhide HZ4] at hkk
          injection hkk with hkk
          injection hkk with _ h5 _
          exact ht h5.symm
        exact (Below.heap_setCell _ _ _ _ (fun e => hne e)).trans (Below.heap_setCell _ _ _ _ (fun e => hne e))
      refine bodyPost_ret (retCop (b := w.heap.size + 1) (by rfl) ?_) rfl ⟨p5, c5, pq, cq, Y, rfl, ?_, ?_, ?_, unhide HYX, ?_⟩
      · exact Go.heap_setCell_same _ _ _ _ _ _ (Go.heap_setCell_same _ _ _ _ _ _ (unhide HZ4))
      · exact own_lies kI_ok (unhide HT) (row_keep (unhide HOT) fun g hg => by
          obtain ⟨ys, hh⟩ := own_obj (unhide HOT) hg
          exact hW g ys 3 _ hh (by decide))
      · exact own_lies kW_ok (unhide HYL) (row_keep (unhide HOQ) fun g hg => by
          obtain ⟨ys, hh⟩ := own_obj (unhide HOQ) hg
          exact hW g ys 41 _ hh (by decide))
      · exact ((unhide HRC).keep fun q ys f hq => hW q ys 43 f hq (by decide)).rw
      · exact ((((unhide HB2).trans ((unhide HBO).mono (unhide HB2).size)).setCell (p := ⟨w.heap.size + 1, 0, none⟩) (Nat.le_succ _) _).setCell (p := ⟨w.heap.size + 1, 1, none⟩) (Nat.le_succ _) _)
end Go.Proofs.YtcafhmlpmbkhkaaGreatDoor
