import Derived.Test.YtcafhmlpmbkhkaaGreatDoorR06
import Derived.Test.YtcafhmlpmbkhkaaGreatDoorR19
import Derived.Test.YtcafhmlpmbkhkaaGreatDoorR20
import Derived.Test.YtcafhmlpmbkhkaaGreatDoorR21
import Derived.Test.YtcafhmlpmbkhkaaGreatDoorR16
namespace Go.Proofs.YtcafhmlpmbkhkaaGreatDoor
open Go Go.Shelf Go.ChangeShapes Go.WideShapes Go.ChangeAt Go.RowKit Go.Maps
set_option linter.unusedVariables false
set_option linter.unusedSimpArgs false
section
variable {P : Program} {ops : Array Oper} {Q : Exit → Act → World → Prop} {md : Region.Mode} {S : World → Prop} {n : Nat}
theorem wpAnyL_two {i j : Nat} {o o' : Oper} {fuel : Nat} {listed : Array Bool} {a : Act} {w : World} (hr : Region.ready md ops listed = [i, j]) (ho : ops[i]? = some o) (ho' : ops[j]? = some o')
    (h : ∀ K' : Act → World → Prop, Shut (∀ a w, S w → (S w → wpAnyL P md ops Q S n fuel (listed.setIfInBounds i true) a w) → K' a w) → if Region.wanted o (yielded ops a.tmps) = true then Oper.wp P o a w K' Q else K' (a.put o.dst undef) w)
    (h' : ∀ K' : Act → World → Prop, Shut (∀ a w, S w → (S w → wpAnyL P md ops Q S n fuel (listed.setIfInBounds j true) a w) → K' a w) → if Region.wanted o' (yielded ops a.tmps) = true then Oper.wp P o' a w K' Q else K' (a.put o'.dst undef) w) : wpAnyL P md ops Q S n (fuel + 1) listed a w := by
  refine ⟨fun h0 => (by rw [hr] at h0; cases h0), fun k hk => ?_⟩
  rw [hr] at hk
  rcases List.mem_cons.1 hk with rfl | hk
  · exact wpOp_step ho (fun K' hK => h K' (fun a w hS hW => hK a w ⟨fun _ => hS, hW hS⟩))
  · rw [List.mem_singleton] at hk
    subst hk
    exact wpOp_step ho' (fun K' hK => h' K' (fun a w hS hW => hK a w ⟨fun _ => hS, hW hS⟩))
end
noncomputable def rowW (d : Nat) (F : ByteArray → Option Int) (y : Tx) : List Tx := [indN y, txt (gO F (txB y)) d, shrN (gO F (txB y)) (gO F (rootB (txB y)))]
noncomputable def treR (d : Nat) (L : List Ch.Ac) (F : ByteArray → Option Int) : List (List Tx) := (Ch.desc L 6 []).map (rowW d F)
open Classical in
noncomputable def errW (dg : Int) (L : List Ch.Ac) (B : List Bv) : Int := if dg < 0 ∨ 6 < dg then 1 else if Ch.fromOk L then rolE L [] B else 67
noncomputable def ansW (dg : Int) (L : List Ch.Ac) (B : List Bv) : Tx × Int := if errW dg L B = 0 then (gridT (rgt [0, 1, 1]) (treR dg.toNat L (rolO B)), 0) else ([], errW dg L B)
theorem rolE_isA {L : List Ch.Ac} : ∀ (R P : List Bv), rolE L P R = 0 → ∀ x ∈ R, ¬ x.rol = -9223372036854775808
  | [], _, _, x, hx => by cases hx
  | y :: R, P, h, x, hx => by
    rw [rolE] at h
    by_cases h0 : balE L P y = 0
    · rw [if_pos h0] at h
      rcases List.mem_cons.1 hx with rfl | hx
      · unfold balE at h0
        intro e
        split at h0
        · cases h0
        · split at h0
          · cases h0
          · first | (rw [if_pos e] at h0; cases h0) | cases h0 | contradiction
      · exact rolE_isA R _ h x hx
    · rw [if_neg h0] at h
      exact absurd h h0
theorem rolO_isA {L : List Ch.Ac} {B : List Bv} (h : rolE L [] B = 0) (hok : ∀ x ∈ B, BvOk x) : ∀ s a, rolO B s = some a → isA a := fun s a hs => by
  unfold rolO at hs
  obtain ⟨x, hx, rfl⟩ := Option.map_eq_some_iff.1 hs
  have hm := List.mem_of_find?_eq_some hx
  have h1 := rolE_isA B [] h x hm
  have h2 := (hok x hm).rol
  unfold fits64 at h2
  unfold isA
  omega
theorem eg121 (args : Array Value) (w : World) : (callFunc 121 args).run Tryz.prog w = .ok (.enter 121 args) w := by kernel_rfl
theorem eg122 (args : Array Value) (w : World) : (callFunc 122 args).run Tryz.prog w = .ok (.enter 122 args) w := by kernel_rfl
theorem eg123 (args : Array Value) (w : World) : (callFunc 123 args).run Tryz.prog w = .ok (.enter 123 args) w := by kernel_rfl
def trV (d mb : Nat) : Value := .agg #[.int .i64 (d : Int), .map (some mb)]
noncomputable def colsW (d mb : Nat) (F : ByteArray → Option Int) : List (Value × (Tx → Tx)) := [(.func (.func 121) #[] #[], indN), (.func (.func 122) #[trV d mb] #[], fun y => txt (gO F (txB y)) d), (.func (.func 123) #[trV d mb] #[], fun y => shrN (gO F (txB y)) (gO F (rootB (txB y))))]
theorem colsW_ok {d mb n : Nat} (hd : d ≤ 6) {F : ByteArray → Option Int} (hF : ∀ s a, F s = some a → isA a) {G : World → Prop} (hP : ∀ W, G W → Kg.Pw W ∧ Rm W mb n F) : ∀ q ∈ colsW d mb F, FnOK cvS (fun x : Tx => x.length ≤ 1048576) G q.1 q.2 := fun q hq => by
  simp only [colsW, List.mem_cons, List.not_mem_nil, or_false] at hq
  rcases hq with rfl | rfl | rfl
  · exact ⟨121, eg121, .inl ⟨rfl, fun x W hx _ => indent_any x hx W⟩⟩
  · exact ⟨122, eg122, .inr (.inl ⟨_, rfl, fun x W hx hG => rollup_any (hP W hG).2 hF d hd (txB x) (by rw [txB_len]; exact hx) (hP W hG).1⟩)⟩
  · exact ⟨123, eg123, .inr (.inl ⟨_, rfl, fun x W hx hG => share_any (hP W hG).2 hF d hd (txB x) (by rw [txB_len]; exact hx) (hP W hG).1⟩)⟩
theorem desc_short {L : List Ch.Ac} (hG : Ch.Good L) : ∀ y ∈ Ch.desc L 6 [], y.length ≤ 101 := fun y hy => by
  obtain ⟨a, ha, rfl⟩ := (Ch.mem_top hG y).1 hy
  have := name_short (hG.name a ha)
  simpa using this
theorem treR_len (d : Nat) (L : List Ch.Ac) (F : ByteArray → Option Int) : ∀ r ∈ treR d L F, r.length ≤ 3 := fun r hr => by
  obtain ⟨y, _, rfl⟩ := List.mem_map.1 hr
  exact Nat.le_refl _
theorem treR_cell {d : Nat} (hd : d ≤ 6) {L : List Ch.Ac} (hG : Ch.Good L) (F : ByteArray → Option Int) : ∀ r ∈ treR d L F, ∀ x ∈ r, x.length ≤ 400 := fun r hr x hx => by
  obtain ⟨y, hy, rfl⟩ := List.mem_map.1 hr
  have h1 := desc_short hG y hy
  simp only [rowW, List.mem_cons, List.not_mem_nil, or_false] at hx
  rcases hx with rfl | rfl | rfl
  · have := indN_len y; omega
  · have := txt_len (gO F (txB y)) d hd; omega
  · have := shrN_len (gO F (txB y)) (gO F (rootB (txB y))); omega
theorem treR_count {L : List Ch.Ac} (hG : Ch.Good L) (d : Nat) (F : ByteArray → Option Int) : (treR d L F).length ≤ 100 := by
  unfold treR
  rw [List.length_map, Ch.desc_len hG]
  exact hG.len
def ldW (x : Value) : Sem Value := Instr.loadAt 175 x
theorem ldW_is (x : Value) : Instr.loadAt 175 x = ldW x := rfl
theorem siz175 : (Tryz.prog.info? 175).map (·.size) = some 2 := by kernel_rfl
theorem run_ldW {w : World} {b d mb : Nat} (h : w.heap[b]? = some (trO d mb)) : (ldW (.pointer (some ⟨b, 0, none⟩))).run Tryz.prog w = .ok (trV d mb) w :=
  run_loadAt_mid (P := Tryz.prog) w b 0 175 [.int .i64 (d : Int), .map (some mb)] _ (fun j u hu => by rw [Nat.zero_add, cell_at h]; simpa [trO] using hu) Tryz.underlying175 rfl siz175
attribute [local go_sem ↓] ldW_is
set_option maxRecDepth 100000 in
set_option maxHeartbeats 16000000 in
theorem tree_any {w : World} (hP : Kg.Pw w) {pa : Option Addr} {na ca : Nat} {L : List Ch.Ac} (hL : L.length = na) (hLL : Lies Ch.kA w pa L) (hna : na ≤ 1048576) (hsz : ∀ a ∈ L, (Ch.txN a.nm).size ≤ 1048576) {p : Option Addr} {n c : Nat} {B : List Bv} (hB : B.length = n) (hLB : Lies kV w p B) (hok : ∀ x ∈ B, BvOk x) (hn : n ≤ 1048576) (dg : Int) (hdg : fits64 dg) :
    Calls Tryz.prog 33 #[.slice pa na ca, .slice p n c, .int .i64 dg] w (TriOut w (ansW dg L B)) := by
  by_cases hbad : dg < 0 ∨ 6 < dg
  · have HE : Hid (ansW dg L B = ([], 1)) := by
      have e : errW dg L B = 1 := if_pos hbad
      show _ = _
      unfold ansW
      rw [e, if_neg (by decide)]
    have HB : Hid (Below w.heap.size w w) := Below.refl _ _
    have D := hide (digits_no dg w hbad)
    clear hP hL hLL hB hLB hok hbad
    go_enter Tryz.func33, Tryz.ntmps33
    go_wp2_with (go_at_call 37; refine (unhide D).mono ?_; rintro e w1 ⟨rfl, hw1⟩; rw [hw1]; clear hw1 w1)
    go_ret2
    exact ⟨by rw [unhide HE]; rfl, unhide HB⟩
  · obtain ⟨d, hd⟩ : ∃ d : Nat, dg = (d : Int) := ⟨dg.toNat, by omega⟩
    subst hd
    have hd' : d ≤ 6 := by omega
    have D0 := hide (digits_yes (d : Int) w (by omega) (by omega))
    have HNB : Hid (¬ ((d : Int) < 0 ∨ 6 < (d : Int))) := hbad
    have D1 := hide (Ch.from_any (c := ca) hL (by omega) hLL (fun a ha => by have := hsz a ha; omega))
    have HPW := hide hP; have HB := hide hB; have HLB := hide hLB; have HOK := hide hok
    clear hP hL hLL hsz hB hLB hok hbad hdg
    go_enter Tryz.func33, Tryz.ntmps33
    go_wp2_with (go_at_call 37; refine (unhide D0).mono ?_; rintro e w1 ⟨rfl, hw1⟩; rw [hw1]; clear hw1 w1 D0)
    refine (unhide D1).mono ?_
    rintro e w1 ⟨⟨hfo, dd, S, g, rfl, hct, hnew⟩ | ⟨hfo, rfl⟩, hb1⟩
    · have D2 := hide (rollups_any hct (c := c) (unhide HB) ((unhide HLB).below hb1) (unhide HOK) hn)
      have HB1 := hide hb1; have HCT := hide hct; have HFO := hide hfo
      unfold Ch.ptr
      clear hb1 hct hfo hnew D1
      go_wp2_with fail
      refine (unhide D2).mono ?_
      rintro e w2 ⟨⟨hz, mb, rfl, hrm, hmb⟩ | ⟨hz, rfl⟩, hb2⟩
      · have HANS : Hid (ansW (d : Int) L B = (gridT (rgt [0, 1, 1]) (treR d L (rolO B)), 0)) := by
          have e : errW (d : Int) L B = 0 := by unfold errW; rw [if_neg (unhide HNB), if_pos (unhide HFO), hz]
          show _ = _
          unfold ansW
          rw [if_pos e]
          rfl
        have hF := rolO_isA hz (unhide HOK)
        obtain ⟨F, hFF⟩ : ∃ F, F = rolO B := ⟨_, rfl⟩
        rw [← hFF] at hF hrm HANS
        have hG : Ch.Good L := Ch.ok_good.1 (unhide HFO)
        have hbw2 : Below w.heap.size w w2 := (unhide HB1).trans (hb2.mono (unhide HB1).size)
        obtain ⟨w3, hw3⟩ : ∃ W, W = w2.alloc (trO d mb) := ⟨_, rfl⟩
        obtain ⟨w4, hw4⟩ : ∃ W, W = w3.alloc (.cells #[.int .i64 0, .int .i64 1, .int .i64 1] 86) := ⟨_, rfl⟩
        have b23 : Below w2.heap.size w2 w3 := by rw [hw3]; exact bal (Below.refl _ _) _
        have b34 : Below w3.heap.size w3 w4 := by rw [hw4]; exact bal (Below.refl _ _) _
        have b24 : Below w2.heap.size w2 w4 := b23.trans (b34.mono b23.size)
        obtain ⟨tb, htb⟩ : ∃ t, t = w2.heap.size := ⟨_, rfl⟩
        have ht3 : w3.heap[tb]? = some (trO d mb) := by rw [hw3, htb]; exact heap_new _ _
        have ht4 : w4.heap[tb]? = some (trO d mb) := (b34.block _ (Array.getElem?_eq_some_iff.1 ht3).1).trans ht3
        have hs4 : w4.heap[w3.heap.size]? = some (.cells #[.int .i64 0, .int .i64 1, .int .i64 1] 86) := by rw [hw4]; exact heap_new _ _
        have D3 : Hid (Calls Tryz.prog 44 #[.slice (some ⟨w3.heap.size, 0, none⟩) 3 3] w4 (NewOut w4 [0, 1, 1])) := by
          refine newGrid_any (S := [0, 1, 1]) (W := w4) ⟨(fun e => by cases e), fun k hk => ?_⟩ (fun q hq => ?_)
          · refine ⟨w3.heap.size, 0, rfl, (Array.getElem?_eq_some_iff.1 hs4).1, fun j u hu => ?_⟩
            have hj : j = 0 := by
              have := (List.getElem?_eq_some_iff.1 hu).1
              simp [kG] at this
              exact this
            subst hj
            have hk3 : k = 0 ∨ k = 1 ∨ k = 2 := by simp at hk; omega
            rw [cell_at hs4]
            rcases hk3 with rfl | rfl | rfl <;> simpa [kG] using hu
          · cases hq
            exact ⟨_, (0, 0), hs4⟩
        have hbw4 : Below w.heap.size w w4 := hbw2.trans (b24.mono hbw2.size)
        have HT4 : Hid (∀ W, Below w4.heap.size w4 W → W.heap[tb]? = some (trO d mb) ∧ Rm W mb n F ∧ Kg.Pw W ∧ Ch.Ct W dd S L g ∧ Below w.heap.size w W) := fun W hW => by
          have h2 := b24.trans (hW.mono b24.size)
          have h1 := hbw4.trans (hW.mono hbw4.size)
          rw [← unhide HB]
          exact ⟨(hW.block _ (Array.getElem?_eq_some_iff.1 ht4).1).trans ht4, hrm.below h2, (unhide HPW).below h1, ((unhide HCT).below hb2).below h2, h1⟩
        have hw3' : w2.alloc (.cells #[.int .i64 (d : Int), .map (some mb)] 175) = w3 := by rw [hw3]; rfl
        have hw4' := hw4.symm
        have HF := hide hF; have HG := hide hG; have HTB := hide htb
        have hm4 : mb < w4.heap.size := Nat.lt_of_lt_of_le hrm.lt b24.size
        have HM4 := hide hm4
        clear hF hG hFF hbw2 hw3 hw4 b23 b34 b24 ht3 ht4 hs4 hbw4 htb hm4 hrm hmb hb2 hz D2
        go_upto_region 10 with fail
        rw [← unhide HTB]
        go_wp2_with (go_at_call 44; refine (unhide D3).mono ?_)
        rintro e w5 ⟨gd, rfl, hG5, hb5⟩
        clear hw3' hw4' D3
        have p5 := unhide HT4 w5.drew (below_drewN hb5 1)
        have l5 := run_ldW p5.1
        obtain ⟨K, hKE⟩ : ∃ K, K = Ch.desc L 6 [] := ⟨_, rfl⟩
        have D4 : Hid (∀ W, Below w4.heap.size w4 W → Calls Tryz.prog 120 #[.pointer (some ⟨dd, 0, none⟩), .string ⟨#[]⟩] W (Ch.BelOut W K)) := fun W hW => by
          have := Ch.below_any (unhide HT4 W hW).2.2.2.1
          rw [← hKE] at this
          exact this
        have HKS : Hid (∀ y ∈ K, y.length ≤ 101) := by rw [hKE]; exact desc_short (unhide HG)
        have HKL : Hid (K.length ≤ 100) := by show _ ≤ _; rw [hKE, Ch.desc_len (unhide HG)]; exact (unhide HG).len
        have HKE := hide hKE
        have HB5 := hide hb5; have HG5 := hide hG5
        clear p5 hb5 hG5 hKE
        go_upto_region 11 with fail
        refine wp_region_last (n := 9) (S := fun W => (ldW (.pointer (some ⟨tb, 0, none⟩))).run Tryz.prog W = .ok (trV d mb) W) (by kernel_rfl) l5 (fun hHeld => ?_)
        refine tkW 0 ?_; refine tkW 1 ?_
        refine tkN 3 ?_; refine tkW 4 ?_; refine tkN 5 ?_; refine tkW 6 ?_
        clear hHeld l5
        have hb5d : Below w4.heap.size w4 w5.drew := below_drewN (unhide HB5) 1
        have D4a := hide (unhide D4 w5.drew hb5d)
        obtain ⟨wz, hwz⟩ : ∃ W, W = (w5.alloc (.cells #[.func (.func 121) #[] #[], .func (.func 122) #[trV d mb] #[], .func (.func 123) #[trV d mb] #[]] 178)).drew := ⟨_, rfl⟩
        have bz : Below w5.heap.size w5 wz := by rw [hwz]; exact below_drewN (bal (Below.refl _ _) _) 1
        have hbz : Below w4.heap.size w4 wz := (unhide HB5).trans (bz.mono (unhide HB5).size)
        have hfz : wz.heap[w5.heap.size]? = some (.cells #[.func (.func 121) #[] #[], .func (.func 122) #[trV d mb] #[], .func (.func 123) #[trV d mb] #[]] 178) := by rw [hwz]; exact heap_new _ _
        have D4b := hide (unhide D4 wz hbz)
        have lz := run_ldW (unhide HT4 wz hbz).1
        have HWZ := hide hwz; have HBZ := hide bz; have HFZ := hide hfz; have HLZ := hide lz; have HBZ4 := hide hbz
        clear hb5d hwz bz hbz hfz lz D4
        refine wpAnyL_two (i := 2) (j := 7) (by kernel_rfl) rfl rfl (fun KK hK => ?_) (fun KK hK => ?_)
        · clear D4b HWZ HBZ HFZ HLZ HBZ4
          go_simp
          go_wp2_with (go_at_call 120; refine (unhide D4a).mono ?_; rintro e w6 ⟨pn, cn, rfl, hon, hb6⟩)
          have b56 : Below w5.heap.size w5 w6 := (below_drewN (Below.refl _ _) 1).trans hb6
          have hb46 : Below w4.heap.size w4 w6 := (unhide HB5).trans (b56.mono (unhide HB5).size)
          have l6 := run_ldW (unhide HT4 w6 hb46).1
          obtain ⟨w7, hw7⟩ : ∃ W, W = w6.alloc (.cells #[.func (.func 121) #[] #[], .func (.func 122) #[trV d mb] #[], .func (.func 123) #[trV d mb] #[]] 178) := ⟨_, rfl⟩
          have b67 : Below w6.heap.size w6 w7 := by rw [hw7]; exact bal (Below.refl _ _) _
          have b57 : Below w5.heap.size w5 w7 := b56.trans (b67.mono b56.size)
          have HFB7 : Hid (w7.heap[w6.heap.size]? = some (.cells #[.func (.func 121) #[] #[], .func (.func 122) #[trV d mb] #[], .func (.func 123) #[trV d mb] #[]] 178)) := by show w7.heap[w6.heap.size]? = _; rw [hw7]; exact heap_new _ _
          have HON7 : Hid (w7.ownsRow w5.heap.size 9 1 (.slice pn K.length cn) K.length (kT.flat K)) := own_below hon b67
          have HG7 := hide ((unhide HG5).below b57)
          have HB47 : Hid (Below w4.heap.size w4 w7) := (unhide HB5).trans (b57.mono (unhide HB5).size)
          have l7 := run_ldW (unhide HT4 w7 (unhide HB47)).1
          have HW7 := hide hw7; have HL7 := hide l7
          refine hK.out _ _ l6 (fun hHeld => ?_)
          clear hK KK hHeld b56 hb46 hon hb6 D4a l6 hw7 b67 b57 l7 HG5
          refine wpAnyL_one (i := 7) (by kernel_rfl) rfl (fun KK hK => ?_)
          go_simp
          have hw7' := (unhide HW7).symm
          rw [hw7']
          refine hK.out _ _ (unhide HL7) (fun hHeld => ?_)
          clear hK KK hHeld hw7'
          have D7 : Hid (Calls Tryz.prog 119 #[.pointer (some ⟨gd, 0, none⟩), .slice pn K.length cn, .slice (some ⟨w6.heap.size, 0, none⟩) 3 3] w7 (SetOut w4.heap.size w7 gd [0, 1, 1] [] (colsW d mb F) K)) := by
            refine setS (unhide HG7) rfl (fun W hW => own_lies kT_ok rfl (gd_own (unhide HON7) hW (by decide) (by decide))) (FS := colsW d mb F) rfl (fun W hW j q hq => ?_) (ok := fun x : Tx => x.length ≤ 1048576) (fun x hx => by have := unhide HKS x hx; omega) (colsW_ok hd' (unhide HF) (fun W hW => by
              have h := unhide HT4 W ((unhide HB47).trans hW.bel)
              exact ⟨h.2.2.1, h.2.1⟩)) (by have := unhide HKL; simp; omega) (by decide)
            have hc := (hW.kept _ _ _ _ (unhide HFB7) (by decide) (by decide)).trans (unhide HFB7)
            rw [Nat.zero_add, cell_at hc]
            have hj3 : j = 0 ∨ j = 1 ∨ j = 2 := by
              have := (List.getElem?_eq_some_iff.1 hq).1
              simp [colsW] at this
              omega
            rcases hj3 with rfl | rfl | rfl <;> (simp [colsW] at hq; subst hq; rfl)
          refine wpAnyL_one (i := 8) (by kernel_rfl) rfl (fun KK hK => ?_)
          go_simp
          go_wp2_with (go_at_call 119; refine (unhide D7).mono ?_; rintro e w8 ⟨⟨v8, rfl⟩, hG8, hd8⟩)
          have hb48 : Below w4.heap.size w4 w8 := (unhide HB47).trans hd8.bel
          have HB48 := hide hb48
          have hrows : ([] : List (List Tx)) ++ K.map (rowF (colsW d mb F)) = treR d L F := by
            unfold treR
            rw [← unhide HKE]
            rfl
          rw [hrows] at hG8
          have hcnt := treR_count (unhide HG) d F
          have D8 := hide (gtext_of hG8 (by decide) (treR_len d L F) (M := 400) (treR_cell hd' (unhide HG) F) (by decide) (by show _ * (3 * _ + 1) ≤ _; omega) (by omega))
          refine hK.out _ _ (run_ldW (unhide HT4 w8 hb48).1) (fun hHeld => ?_)
          clear hK KK hHeld hb48 hd8 hG8 hrows D7 hcnt
          refine wpAnyL_done (by kernel_rfl) ?_
          go_wp2_with fail
          refine (unhide D8).mono ?_
          rintro e w9 ⟨rfl, hb9⟩
          have HB9 : Hid (Below w.heap.size w w9) := by
            have h1 := (unhide HT4 w8 (unhide HB48)).2.2.2.2
            exact h1.trans (hb9.mono h1.size)
          clear hb9 D8
          go_wp2_with fail
          go_ret2
          exact ⟨by rw [unhide HANS]; rfl, unhide HB9⟩
        · clear D4a
          go_simp
          have hwz' := (unhide HWZ).symm
          rw [hwz']
          refine hK.out _ _ (unhide HLZ) (fun hHeld => ?_)
          clear hK KK hHeld hwz'
          refine wpAnyL_one (i := 2) (by kernel_rfl) rfl (fun KK hK => ?_)
          go_simp
          go_wp2_with (go_at_call 120; refine (unhide D4b).mono ?_; rintro e w7 ⟨pn, cn, rfl, hon, hb7⟩)
          have b57 : Below w5.heap.size w5 w7 := (unhide HBZ).trans (hb7.mono (unhide HBZ).size)
          have HFB7 : Hid (w7.heap[w5.heap.size]? = some (.cells #[.func (.func 121) #[] #[], .func (.func 122) #[trV d mb] #[], .func (.func 123) #[trV d mb] #[]] 178)) := (hb7.block _ (Array.getElem?_eq_some_iff.1 (unhide HFZ)).1).trans (unhide HFZ)
          have HON7 : Hid (w7.ownsRow wz.heap.size 9 1 (.slice pn K.length cn) K.length (kT.flat K)) := hon
          have HG7 := hide ((unhide HG5).below b57)
          have HB47 : Hid (Below w4.heap.size w4 w7) := (unhide HB5).trans (b57.mono (unhide HB5).size)
          have l7 := run_ldW (unhide HT4 w7 (unhide HB47)).1
          refine hK.out _ _ l7 (fun hHeld => ?_)
          clear hK KK hHeld hon hb7 D4b b57 l7 HG5 HWZ HBZ HFZ HLZ HBZ4
          have D7 : Hid (Calls Tryz.prog 119 #[.pointer (some ⟨gd, 0, none⟩), .slice pn K.length cn, .slice (some ⟨w5.heap.size, 0, none⟩) 3 3] w7 (SetOut w4.heap.size w7 gd [0, 1, 1] [] (colsW d mb F) K)) := by
            refine setS (unhide HG7) rfl (fun W hW => own_lies kT_ok rfl (gd_own (unhide HON7) hW (by decide) (by decide))) (FS := colsW d mb F) rfl (fun W hW j q hq => ?_) (ok := fun x : Tx => x.length ≤ 1048576) (fun x hx => by have := unhide HKS x hx; omega) (colsW_ok hd' (unhide HF) (fun W hW => by
              have h := unhide HT4 W ((unhide HB47).trans hW.bel)
              exact ⟨h.2.2.1, h.2.1⟩)) (by have := unhide HKL; simp; omega) (by decide)
            have hc := (hW.kept _ _ _ _ (unhide HFB7) (by decide) (by decide)).trans (unhide HFB7)
            rw [Nat.zero_add, cell_at hc]
            have hj3 : j = 0 ∨ j = 1 ∨ j = 2 := by
              have := (List.getElem?_eq_some_iff.1 hq).1
              simp [colsW] at this
              omega
            rcases hj3 with rfl | rfl | rfl <;> (simp [colsW] at hq; subst hq; rfl)
          refine wpAnyL_one (i := 8) (by kernel_rfl) rfl (fun KK hK => ?_)
          go_simp
          go_wp2_with (go_at_call 119; refine (unhide D7).mono ?_; rintro e w8 ⟨⟨v8, rfl⟩, hG8, hd8⟩)
          have hb48 : Below w4.heap.size w4 w8 := (unhide HB47).trans hd8.bel
          have HB48 := hide hb48
          have hrows : ([] : List (List Tx)) ++ K.map (rowF (colsW d mb F)) = treR d L F := by
            unfold treR
            rw [← unhide HKE]
            rfl
          rw [hrows] at hG8
          have hcnt := treR_count (unhide HG) d F
          have D8 := hide (gtext_of hG8 (by decide) (treR_len d L F) (M := 400) (treR_cell hd' (unhide HG) F) (by decide) (by show _ * (3 * _ + 1) ≤ _; omega) (by omega))
          refine hK.out _ _ (run_ldW (unhide HT4 w8 hb48).1) (fun hHeld => ?_)
          clear hK KK hHeld hb48 hd8 hG8 hrows D7 hcnt
          refine wpAnyL_done (by kernel_rfl) ?_
          go_wp2_with fail
          refine (unhide D8).mono ?_
          rintro e w9 ⟨rfl, hb9⟩
          have HB9 : Hid (Below w.heap.size w w9) := by
            have h1 := (unhide HT4 w8 (unhide HB48)).2.2.2.2
            exact h1.trans (hb9.mono h1.size)
          clear hb9 D8
          go_wp2_with fail
          go_ret2
          exact ⟨by rw [unhide HANS]; rfl, unhide HB9⟩
      · have hzb : (rolE L [] B != 0) = true := by rw [bne_iff_ne]; exact hz
        have HE : Hid (ansW (d : Int) L B = ([], rolE L [] B)) := by
          have e : errW (d : Int) L B = rolE L [] B := by unfold errW; rw [if_neg (unhide HNB), if_pos (unhide HFO)]
          show _ = _
          unfold ansW
          rw [e, if_neg hz]
        obtain ⟨E, hE⟩ : ∃ z, z = rolE L [] B := ⟨_, rfl⟩
        rw [← hE] at HE hzb ⊢
        have HB2 := hide ((unhide HB1).trans (hb2.mono (unhide HB1).size))
        clear hb2 hE D2 hz
        go_wp2_with fail
        go_ret2
        exact ⟨by rw [unhide HE]; rfl, unhide HB2⟩
    · have HE : Hid (ansW (d : Int) L B = ([], 67)) := by
        have e : errW (d : Int) L B = 67 := by unfold errW; rw [if_neg (unhide HNB), if_neg hfo]
        show _ = _
        unfold ansW
        rw [e, if_neg (by decide)]
      have HB1 := hide hb1
      clear hb1 D1
      go_wp2_with fail
      go_ret2
      exact ⟨by rw [unhide HE]; rfl, unhide HB1⟩
end Go.Proofs.YtcafhmlpmbkhkaaGreatDoor
