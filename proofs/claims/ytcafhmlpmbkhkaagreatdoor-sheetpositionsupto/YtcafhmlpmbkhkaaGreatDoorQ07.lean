import Derived.Test.YtcafhmlpmbkhkaaGreatDoorQ06
import Derived.Test.YtcafhmlpmbkhkaaGreatDoorW38
namespace Go.Proofs.YtcafhmlpmbkhkaaGreatDoor
open Go Go.Shelf Go.ChangeShapes Go.WideShapes Go.ChangeAt Go.RowKit Go.Maps
set_option linter.unusedVariables false
set_option linter.unusedSimpArgs false
set_option maxHeartbeats 4000000 in
theorem msum_nil (a : Option Addr) (c : Nat) (w : World) : Calls Tryz.prog 83 #[.slice a 0 c] w fun e w' => e = .returned (.tuple #[.int .i64 0, .int .i64 0]) ∧ w' = w := by
  go_enter Tryz.func83, Tryz.ntmps83
  go_wp2
  go_loop [4, 5, 13] (fun hi lo i => hi = .int .u64 0 ∧ lo = .int .u64 0 ∧ i = .int .i64 0) (fun _ _ i => 0)
  case atStart => exact ⟨rfl, rfl, rfl⟩
  case round =>
    obtain ⟨rfl, rfl, rfl⟩ := hrel
    have es : sgnW 0 = 0 := by decide
    go_wp2_with (first | (go_at_call 166; refine (sgn_any _ _ (by omega) (by omega)).mono ?_; rintro e w' ⟨rfl, hw⟩; subst hw) | (go_at_call 164; refine (chk_yes _ _ (by omega)).mono ?_; rintro e w' ⟨rfl, hw⟩; subst hw) | rw [es])
    go_ret2
    exact ⟨rfl, rfl⟩
theorem msum_lies {w : World} {p : Option Addr} {n c : Nat} {zs : List Int} (hz : zs.length = n) (hL : Lies kN w p zs) (hf : ∀ z ∈ zs, fits64 z) (hn : n ≤ 9223372036854775807) :
    Calls Tryz.prog 83 #[.slice p n c] w fun e w' => e = .returned (.tuple #[.int .i64 (sumL zs).1, .int .i64 (sumL zs).2]) ∧ w' = w := by
  cases zs with
  | nil =>
    simp only [List.length_nil] at hz
    subst hz
    exact msum_nil p c w
  | cons z zs =>
    obtain ⟨b, off, rfl, hlt, hr⟩ := hL.2 0 (by simp)
    have h := msum_any (fun k => (z :: zs).getD k 0) b off n c hn (fun k hk => by
      rw [List.getD_eq_getElem?_getD, List.getElem?_eq_getElem (by omega)]
      have := hf _ (List.getElem_mem (by omega : k < (z :: zs).length))
      unfold fits64 at this
      simp only [Option.getD_some]
      omega) w (fun k hk => by
      obtain ⟨b', off', e, hlt, hr⟩ := hL.2 k (by omega)
      cases e
      have := hr 0 (.int .i64 ((z :: zs)[k]'(by omega))) (by simp [kN])
      rw [List.getD_eq_getElem?_getD, List.getElem?_eq_getElem (by omega)]
      simpa [kN] using this)
    unfold sumL
    rw [hz]
    exact h
theorem sumL_isA (zs : List Int) : isA (sumL zs).1 := by
  unfold sumL sumSpec isA
  split
  · exact ⟨by decide, by decide⟩
  · split
    · rename_i h
      exact ⟨by omega, by omega⟩
    · exact ⟨by decide, by decide⟩
structure Ba (W : World) (bb : Nat) (pa : Option Addr) (na ca mb n : Nat) (F : ByteArray → List Int) (over : Int) : Prop where
  blk : W.heap[bb]? = some (balO pa na ca mb over)
  gp : Gp W (bb + 1) mb n F
  lt : mb < bb
theorem Ba.below {W W' : World} {bb : Nat} {pa : Option Addr} {na ca mb n : Nat} {F : ByteArray → List Int} {over : Int} (h : Ba W bb pa na ca mb n F over) (hb : Below W.heap.size W W') : Ba W' bb pa na ca mb n F over :=
  ⟨(hb.block _ (Array.getElem?_eq_some_iff.1 h.blk).1).trans h.blk, h.gp.below hb, h.lt⟩
theorem Ba.inh {W : World} {bb : Nat} {pa : Option Addr} {na ca mb n : Nat} {F : ByteArray → List Int} {over : Int} (h : Ba W bb pa na ca mb n F over) : bb < W.heap.size := (Array.getElem?_eq_some_iff.1 h.blk).1
theorem Ba.put {W : World} {bb : Nat} {pa : Option Addr} {na ca mb n : Nat} {F : ByteArray → List Int} {over : Int} (h : Ba W bb pa na ca mb n F over) (x : Int) : Ba (W.setCell ⟨bb, 2, none⟩ (.int .i64 x)) bb pa na ca mb n F x := by
  have hb := h.blk
  have hg : W.grownBy (W.setCell ⟨bb, 2, none⟩ (.int .i64 x)) (some bb) := ⟨rfl, rfl, rfl, by simp, fun k _ hk => heap_setCell_other W _ k _ (fun e => hk (by rw [e]))⟩
  refine ⟨?_, h.gp.keep hg (by intro e; have := Option.some.inj e; have := h.lt; omega) (fun j hj => by cases hj; omega), h.lt⟩
  unfold balO at hb ⊢
  simp [World.setCell, Array.getElem?_modify, hb]
theorem grown_set (W : World) (b k : Nat) (v : Value) : W.grownBy (W.setCell ⟨b, k, none⟩ v) (some b) := ⟨rfl, rfl, rfl, by simp, fun k _ hk => heap_setCell_other W _ k _ (fun e => hk (by rw [e]))⟩
theorem grown_below {W W' : World} (r : Option Nat) (h : Below W.heap.size W W') : W.grownBy W' r := ⟨h.os, h.tape, h.output, h.size, fun k hk _ => h.block k hk⟩
def SumOut (w : World) (bb : Nat) (pa : Option Addr) (na ca mb n : Nat) (F : ByteArray → List Int) (over : Int) (zs : List Int) (e : Ending) (w' : World) : Prop :=
  e = .returned (.int .i64 (sumL zs).1) ∧ Ba w' bb pa na ca mb n F (orE over (sumL zs).2) ∧ w.grownBy w' (some bb)
set_option maxRecDepth 100000 in
set_option maxHeartbeats 4000000 in
theorem sumb_any {w : World} {bb : Nat} {pa : Option Addr} {na ca mb n : Nat} {F : ByteArray → List Int} {over : Int} (h : Ba w bb pa na ca mb n F over) {p : Option Addr} {m c : Nat} {zs : List Int} (hz : zs.length = m) (hL : Lies kN w p zs) (hf : ∀ z ∈ zs, fits64 z) (hm : m ≤ 9223372036854775807) :
    Calls Tryz.prog 106 #[.pointer (some ⟨bb, 0, none⟩), .slice p m c] w (SumOut w bb pa na ca mb n F over zs) := by
  have D := hide (msum_lies (c := c) hz hL hf hm)
  obtain ⟨E, hE⟩ : ∃ z, z = (sumL zs).2 := ⟨_, rfl⟩
  have c2 : w.cell? ⟨bb, 2, none⟩ = some (.int .i64 over) := by rw [cell_at h.blk]; rfl
  obtain ⟨w1, hw1⟩ : ∃ W, W = w.alloc (.cells #[.int .i64 over, .int .i64 E] 24) := ⟨_, rfl⟩
  have b1 : Below w.heap.size w w1 := by rw [hw1]; exact bal (Below.refl _ _) _
  have hh1 : w1.heap[w.heap.size]? = some (.cells #[.int .i64 over, .int .i64 E] 24) := by rw [hw1]; exact heap_new _ _
  have D2 := hide (or_two over E w.heap.size w1 (by rw [cell_at hh1]; rfl) (by rw [cell_at hh1]; rfl))
  have h1 := h.below b1
  have c1 : w1.cell? ⟨bb, 2, none⟩ = some (.int .i64 over) := by rw [cell_at h1.blk]; rfl
  have fr1 : w1.frozen? ⟨bb, 2, none⟩ = false := by have h := h1.blk; unfold balO at h; exact froz_at h
  have HF : Hid (SumOut w bb pa na ca mb n F over zs (.returned (.int .i64 (sumL zs).1)) (w1.setCell ⟨bb, 2, none⟩ (.int .i64 (orE over E)))) := by
    refine ⟨rfl, by rw [← hE]; exact h1.put _, (grown_below _ b1).trans (grown_set _ _ _ _)⟩
  have hw1' := hw1.symm
  rw [← hE] at D
  obtain ⟨s1, hs1⟩ : ∃ z, z = (sumL zs).1 := ⟨_, rfl⟩
  rw [← hs1] at D HF
  clear h hz hL hf hm hE hw1 b1 hh1 h1 hs1
  go_enter Tryz.func106, Tryz.ntmps106
  go_wp2_with fail
  refine (unhide D).mono ?_
  rintro e w' ⟨rfl, hw⟩
  subst hw
  go_wp2_with fail
  refine (unhide D2).mono ?_
  rintro e w' ⟨rfl, hw⟩
  subst hw
  go_wp2_with fail
  go_ret
  exact unhide HF
end Go.Proofs.YtcafhmlpmbkhkaaGreatDoor
namespace Go.Proofs.YtcafhmlpmbkhkaaGreatDoor
open Go Go.Shelf Go.ChangeShapes Go.WideShapes Go.ChangeAt Go.RowKit Go.Maps
set_option linter.unusedVariables false
set_option linter.unusedSimpArgs false
attribute [local go_sem ↓] ldL_is
set_option maxRecDepth 100000 in
set_option maxHeartbeats 8000000 in
theorem worL {w : World} {p : Option Addr} {n c : Nat} {X : List Lm} (hX : X.length = n) (hL : Lies kL w p X) {fv : Value} {f : Lm → Int} {ok : Lm → Prop} (hok : ∀ x ∈ X, ok x) (hfn : WnOK cvL ok fv f) (hn : n ≤ 30000000000000) :
    Calls Tryz.prog 178 #[.slice p n c, fv] w (WorOut w (X.map f)) := by
  obtain ⟨g, eg, rfl, hcall⟩ := hfn
  have hmk : (Instr.makeSlice 92 (.int .i64 (n : Int)) (.int .i64 (n : Int))).run Tryz.prog w = .ok (.slice (some ⟨w.heap.size, 0, none⟩) n n) (w.alloc (.cells (madeCells (Value.int .i64 0).cells (n * 1)) 2)) := run_mk (z := .int .i64 0) (s := 1) (b := 8) w 92 2 Tryz.underlying92 (by kernel_rfl) n (by omega) (by omega)
  have hlr : (X.map f).length = n := by rw [List.length_map, hX]
  obtain ⟨w0, hw0⟩ : ∃ w0, w0 = w.alloc (.cells (madeCells (Value.int .i64 0).cells (n * 1)) 2) := ⟨_, rfl⟩
  have A0 : NsAt w (X.map f) 0 w.heap.size w0 := by
    have := NsAt.begin w (X.map f) (by omega)
    rwa [hlr, ← hw0] at this
  rw [← hw0] at hmk
  have HA0 := hide A0; have HX := hide hX; have HL := hide hL; have HOK := hide hok; have HC := hide hcall; have HLR := hide hlr
  clear A0 hX hL hok hcall hlr hw0
  go_enter Tryz.func178, Tryz.ntmps178
  go_wp2_with fail
  go_loopw [13] (fun iv wr => ∃ (k : Nat) (K : Int), k ≤ n ∧ iv = .int .i64 K ∧ K = (k : Int) ∧ Hid (NsAt w (X.map f) k w.heap.size wr)) (fun iv _ => ((n : Int) - intOf iv).toNat)
  case atStart => exact ⟨0, 0, by omega, rfl, rfl, unhide HA0⟩
  case round =>
    clear hmk
    obtain ⟨wo, rfl⟩ : ∃ x, x = wr := ⟨wr, rfl⟩
    obtain ⟨k, K, hk, rfl, hK, HA⟩ := hrel
    by_cases hlt : k < n
    · have hI : K < (n : Int) := by omega
      have hK0 : 0 ≤ K := by omega
      have hKt : K.toNat = k := by omega
      have hkX : k < X.length := by have := unhide HX; omega
      obtain ⟨b, o, ep, hb, hld⟩ := ((unhide HL).below' (unhide HA).bel).ldL hkX
      obtain ⟨x, hx⟩ : ∃ x, x = X[k] := ⟨_, rfl⟩
      rw [← hx] at hld
      have hxm : x ∈ X := by rw [hx]; exact List.getElem_mem hkX
      have HTX : Hid ((X.map f)[k]? = some (f x)) := by show _ = _; rw [List.getElem?_map, List.getElem?_eq_getElem hkX, ← hx]; rfl
      subst ep
      obtain ⟨w1, hw1⟩ : ∃ w1, w1 = wo.alloc (obL x) := ⟨_, rfl⟩
      have b1 : Below wo.heap.size wo w1 := by rw [hw1]; exact bal (Below.refl _ _) _
      have hlv : (ldL (.pointer (some ⟨wo.heap.size, 0, none⟩))).run Tryz.prog w1 = .ok (cvL x) w1 := by rw [hw1]; exact ld_varL wo x (Below.refl _ _)
      have d := hide (unhide HC x w1 (unhide HOK x hxm))
      have HA1 := hide ((unhide HA).below b1)
      have HK := hide hK
      obtain ⟨vx, hvx⟩ : ∃ v, v = cvL x := ⟨_, rfl⟩
      rw [← hvx] at hlv d
      have hw1' : wo.alloc (.cells #[.string x.lab, .int .i64 x.amt] 166) = w1 := by rw [hw1]; rfl
      unfold cvL at hld
      clear b1 hw1 hkX hlt hK hvx hxm hx HA
      go_wp2_with fail
      refine (unhide d).mono ?_
      rintro e w3 ⟨rfl, hb3⟩
      have hC3 := (unhide HA1).below hb3
      have st3 : w3.cell? ⟨w.heap.size, k, none⟩ ≠ none := by
        rw [hC3.own.cellAt k (by have := unhide HLR; omega), kN_flat, List.getElem?_map, List.getElem?_eq_getElem (by rw [midN_len _ _ (by have := unhide HLR; omega)]; have := unhide HLR; omega)]
        simp
      obtain ⟨u3, hu3⟩ := Option.ne_none_iff_exists'.1 st3
      have fr3 : w3.frozen? ⟨w.heap.size, k, none⟩ = false := hC3.own.frozenAt k
      have HS := hide (hC3.set (unhide HTX))
      obtain ⟨TX, hTX⟩ : ∃ v, v = f x := ⟨_, rfl⟩
      rw [← hTX] at HS ⊢
      clear hb3 hC3 st3 d hld hlv hTX hw1' HA1
      go_wp2_with fail
      exact ⟨⟨k + 1, K + 1, by have := unhide HK; omega, by go_num, by have := unhide HK; omega, unhide HS⟩, by have := unhide HK; simp [intOf]; omega⟩
    · have hI : ¬ K < (n : Int) := by omega
      have HF : Hid (WorOut w (X.map f) (.returned (.slice (some ⟨w.heap.size, 0, none⟩) n n)) wo) := by
        have h1 := unhide HA
        have ek : k = (X.map f).length := by have := unhide HLR; omega
        rw [ek] at h1
        exact ⟨_, by rw [unhide HLR], h1⟩
      clear HA hK
      go_wp2_with fail
      go_ret
      exact unhide HF
set_option maxRecDepth 100000 in
set_option maxHeartbeats 4000000 in
theorem amtL_any (x : Lm) (w : World) : Calls Tryz.prog 179 #[cvL x] w fun e w' => e = .returned (.int .i64 x.amt) ∧ Below w.heap.size w w' := by
  obtain ⟨w1, hw1⟩ : ∃ W, W = w.alloc (obL x) := ⟨_, rfl⟩
  have b1 : Below w.heap.size w w1 := by rw [hw1]; exact bal (Below.refl _ _) _
  have hc1 : w1.cell? ⟨w.heap.size, 1, none⟩ = some (.int .i64 x.amt) := by rw [hw1]; exact cell_at (heap_new _ _)
  have hw1' : w.alloc (.cells #[.string x.lab, .int .i64 x.amt] 166) = w1 := by rw [hw1]; rfl
  have HB := hide b1
  clear hw1 b1
  unfold cvL
  go_enter Tryz.func179, Tryz.ntmps179
  go_wp2_with fail
  go_ret
  exact ⟨rfl, unhide HB⟩
theorem wn_amt : WnOK cvL (fun _ => True) (.func (.func 179) #[] #[]) Lm.amt := ⟨179, (fun args w => by kernel_rfl), rfl, fun x W _ => amtL_any x W⟩
set_option maxRecDepth 100000 in
set_option maxHeartbeats 4000000 in
theorem sumOf_any {w : World} {bb : Nat} {pa : Option Addr} {na ca mb n : Nat} {F : ByteArray → List Int} {over : Int} (h : Ba w bb pa na ca mb n F over) {p : Option Addr} {m c : Nat} {X : List Lm} (hX : X.length = m) (hL : Lies kL w p X) (hf : ∀ x ∈ X, fits64 x.amt) (hm : m ≤ 30000000000000) :
    Calls Tryz.prog 105 #[.pointer (some ⟨bb, 0, none⟩), .slice p m c] w (SumOut w bb pa na ca mb n F over (X.map Lm.amt)) := by
  have D := hide (worL (c := c) hX hL (ok := fun _ => True) (fun _ _ => trivial) wn_amt hm)
  have HB := hide h
  have HX : Hid ((X.map Lm.amt).length = m) := by show _ = _; rw [List.length_map, hX]
  have HF : Hid (∀ z ∈ X.map Lm.amt, fits64 z) := by
    intro z hz
    obtain ⟨x, hx, rfl⟩ := List.mem_map.1 hz
    exact hf x hx
  clear h hX hL hf
  go_enter Tryz.func105, Tryz.ntmps105
  go_wp2_with fail
  refine (unhide D).mono ?_
  rintro e w1 ⟨g1, rfl, hN⟩
  have hl : Lies kN w1 (some ⟨g1, 0, none⟩) (X.map Lm.amt) := by
    have ho := hN.own
    rw [midN_end] at ho
    exact own_lies kN_ok rfl ho
  have D2 := hide (sumb_any ((unhide HB).below hN.bel) (c := m) (unhide HX) hl (unhide HF) (by omega))
  have HB1 := hide hN.bel
  rw [unhide HX]
  clear hN hl D
  go_wp2_with fail
  refine (unhide D2).mono ?_
  rintro e w2 ⟨rfl, hb2, hg2⟩
  have HE : Hid (SumOut w bb pa na ca mb n F over (X.map Lm.amt) (.returned (.int .i64 (sumL (X.map Lm.amt)).1)) w2) := ⟨rfl, hb2, (grown_below _ (unhide HB1)).trans hg2⟩
  obtain ⟨s1, hs1⟩ : ∃ z, z = (sumL (X.map Lm.amt)).1 := ⟨_, rfl⟩
  rw [← hs1] at HE ⊢
  clear hb2 hg2 hs1
  go_wp2_with fail
  go_ret
  exact unhide HE
end Go.Proofs.YtcafhmlpmbkhkaaGreatDoor
namespace Go.Proofs.YtcafhmlpmbkhkaaGreatDoor
open Go Go.Shelf Go.ChangeShapes Go.WideShapes Go.ChangeAt Go.RowKit Go.Maps
set_option linter.unusedVariables false
set_option linter.unusedSimpArgs false
def ldP (x : Value) : Sem Value := Instr.loadAt 130 x
theorem ldP_is (x : Value) : Instr.loadAt 130 x = ldP x := rfl
theorem run_ldP {w : World} {b d g : Nat} (h : w.heap[b]? = some (pO d g)) : (ldP (.pointer (some ⟨b, 0, none⟩))).run Tryz.prog w = .ok (pV d g) w :=
  run_loadAt_mid (P := Tryz.prog) w b 0 130 [.int .i64 (d : Int), .pointer (some ⟨g, 0, none⟩)] _ (fun j u hu => by rw [Nat.zero_add, cell_at h]; simpa [pO] using hu) Tryz.underlying130 rfl sz130
theorem grid_len (right : Nat → Bool) {R : List (List Tx)} {M N : Nat} (hN : ∀ r ∈ R, r.length ≤ N) (hM : ∀ r ∈ R, ∀ x ∈ r, x.length ≤ M) : (gridT right R).length ≤ R.length * (N * (M + 2) + 1) := by
  unfold gridT
  refine lines_len (fun c => wid_le fun r hr => ?_) hN R (fun r hr => hr)
  rw [List.getD_eq_getElem?_getD]
  rcases Nat.lt_or_ge c r.length with h | h
  · rw [List.getElem?_eq_getElem h]
    exact hM r hr _ (List.getElem_mem h)
  · rw [List.getElem?_eq_none h]
    exact Nat.zero_le _
def sidS (own t : Int) : Int := if t = 4 ∨ t = 2 ∨ t = 3 then -own else own
theorem sidS_isA {own t : Int} (h : isA own) : isA (sidS own t) := by
  unfold sidS
  unfold isA at *
  split <;> omega
set_option maxRecDepth 100000 in
set_option maxHeartbeats 4000000 in
theorem sided_any (own t : Int) (ha : isA own) (w : World) : Calls Tryz.prog 177 #[.int .i64 own, .int .i64 t] w fun e w' => e = .returned (.int .i64 (sidS own t)) ∧ w' = w := by
  have HS : Hid (sidS own t = if t = 4 ∨ t = 2 ∨ t = 3 then -own else own) := rfl
  have ha' := ha.1
  have ha'' := ha.2
  by_cases h4 : t = 4
  · subst h4
    have he : sidS own 4 = -own := by rw [unhide HS]; simp
    rw [he]
    go_enter Tryz.func177, Tryz.ntmps177
    go_wp2_with fail
    go_ret
    exact ⟨rfl, rfl⟩
  · have e4 : (t == 4) = false := beq_eq_false_iff_ne.2 h4
    by_cases h2 : t = 2
    · subst h2
      have he : sidS own 2 = -own := by rw [unhide HS]; simp
      rw [he]
      go_enter Tryz.func177, Tryz.ntmps177
      go_wp2_with fail
      go_ret
      exact ⟨rfl, rfl⟩
    · have e2 : (t == 2) = false := beq_eq_false_iff_ne.2 h2
      by_cases h3 : t = 3
      · subst h3
        have he : sidS own 3 = -own := by rw [unhide HS]; simp
        rw [he]
        go_enter Tryz.func177, Tryz.ntmps177
        go_wp2_with fail
        go_ret
        exact ⟨rfl, rfl⟩
      · have e3 : (t == 3) = false := beq_eq_false_iff_ne.2 h3
        have he : sidS own t = own := by rw [unhide HS]; simp [h4, h2, h3]
        rw [he]
        go_enter Tryz.func177, Tryz.ntmps177
        go_wp2_with fail
        go_ret
        exact ⟨rfl, rfl⟩
def blkR (title : ByteArray) (X : List Lm) (s : Int) (d : Nat) : List (List Tx) := [[title.data.toList]] ++ X.map (fun x => [x.lab.data.toList, txt x.amt d]) ++ [[(txB [83, 117, 109]).data.toList, txt s d]]
theorem blkR_len (title : ByteArray) (X : List Lm) (s : Int) (d : Nat) : (blkR title X s d).length = X.length + 2 := by
  unfold blkR
  simp
attribute [local go_sem ↓] ldP_is
set_option maxRecDepth 100000 in
set_option maxHeartbeats 4000000 in
theorem pblock_any {B : Nat} {w : World} {g : Nat} {R : List (List Tx)} (h : Gr B w g [0, 1] R) (d : Nat) (hd : d ≤ 6) (title : ByteArray) {p : Option Addr} {n c : Nat} {X : List Lm} (hX : X.length = n) (hG : ∀ W, Gd B w W → Lies kL W p X ∧ Kg.Pw W) (hok : ∀ x ∈ X, isA x.amt) (s : Int) (hs : isA s) (hn : R.length + n + 2 ≤ 1099511627776) :
    Calls Tryz.prog 107 #[pV d g, .string title, .slice p n c, .int .i64 s] w (fun e w' => (∃ v, e = .returned v) ∧ Gr B w' g [0, 1] (R ++ blkR title X s d) ∧ Gd B w w') := by
  have hBw : B ≤ w.heap.size := by
    obtain ⟨ps, cs, pr, cr, L, k⟩ := h
    exact Nat.le_trans k.low (Nat.le_of_lt (Array.getElem?_eq_some_iff.1 k.cell).1)
  obtain ⟨w1, hw1⟩ : ∃ W, W = w.alloc (pO d g) := ⟨_, rfl⟩
  have b1 : Below w.heap.size w w1 := by rw [hw1]; exact bal (Below.refl _ _) _
  have hh1 : w1.heap[w.heap.size]? = some (pO d g) := by rw [hw1]; exact heap_new _ _
  obtain ⟨w2, hw2⟩ : ∃ W, W = w1.alloc (litB [title.data.toList]) := ⟨_, rfl⟩
  have b2 : Below w1.heap.size w1 w2 := by rw [hw2]; exact bal (Below.refl _ _) _
  have b02 : Below w.heap.size w w2 := b1.trans (b2.mono b1.size)
  have hh2 : w2.heap[w.heap.size]? = some (pO d g) := (b2.block _ (Array.getElem?_eq_some_iff.1 hh1).1).trans hh1
  have D1 : Hid (Calls Tryz.prog 45 #[.pointer (some ⟨g, 0, none⟩), .slice (some ⟨w1.heap.size, 0, none⟩) 1 1] w2 (AddOut B w2 g [0, 1] R [title.data.toList])) := by
    refine add_any (h.below b02) ?_ (by omega)
    rw [hw2]
    exact litL w1 [title.data.toList]
  have c1 : w1.cell? ⟨w.heap.size, 1, none⟩ = some (.pointer (some ⟨g, 0, none⟩)) := by rw [cell_at hh1]; rfl
  have g02 : Gd B w w2 := Gd.of_below b02 hBw
  have hw1' : w.alloc (.cells #[.int .i64 (d : Int), .pointer (some ⟨g, 0, none⟩)] 130) = w1 := hw1.symm
  have hw2' : w1.alloc (.cells #[.string title] 9) = w2 := hw2.symm
  have HH := hide hh2; have HG2 := hide g02; have HGG := hide hG; have HOK := hide hok; have HSS := hide hs; have HX := hide hX
  clear hw1 hw2 b1 b2 b02 g02 hh1 hh2 h hX hG hok hs hBw
  unfold pV
  go_enter Tryz.func107, Tryz.ntmps107
  go_wp2_with fail
  refine (unhide D1).mono ?_
  rintro e w3 ⟨⟨v3, rfl⟩, hG3, hd3⟩
  have hh3 : w3.heap[w.heap.size]? = some (pO d g) := (hd3.kept _ _ _ _ (unhide HH) (by decide) (by decide)).trans (unhide HH)
  have g03 : Gd B w w3 := (unhide HG2).trans hd3
  have l3 := run_ldP hh3
  unfold pV at l3
  have D2 : Hid (Calls Tryz.prog 92 #[.agg #[.int .i64 (d : Int), .pointer (some ⟨g, 0, none⟩)], .slice p n c] w3 (fun e w' => (∃ v, e = .returned v) ∧ Gr B w' g [0, 1] ((R ++ [[title.data.toList]]) ++ X.map fun x => [x.lab.data.toList, txt x.amt d]) ∧ Gd B w3 w')) :=
    pairs_any hG3 d hd (unhide HX) (fun W hW => unhide HGG W (g03.trans hW)) (unhide HOK) (by simp; omega)
  have HH3 := hide hh3; have HG3 := hide g03
  clear hh3 g03 hG3 hd3 D1 hw1' hw2' c1
  go_wp2_with fail
  refine (unhide D2).mono ?_
  rintro e w4 ⟨⟨v4, rfl⟩, hG4, hd4⟩
  have hh4 : w4.heap[w.heap.size]? = some (pO d g) := (hd4.kept _ _ _ _ (unhide HH3) (by decide) (by decide)).trans (unhide HH3)
  have g04 : Gd B w w4 := (unhide HG3).trans hd4
  have l4 := run_ldP hh4
  unfold pV at l4
  have D3 := hide (pair_any hG4 d hd (txB [83, 117, 109]) s (unhide HSS) ((unhide HGG) w4 g04).2 (by have := unhide HX; simp; omega))
  unfold pV at D3
  have HG4 := hide g04
  clear hh4 g04 hG4 hd4 D2 l3
  go_wp2_with fail
  refine (unhide D3).mono ?_
  rintro e w5 ⟨⟨v5, rfl⟩, hG5, hd5⟩
  have HE : Hid (Gr B w5 g [0, 1] (R ++ blkR title X s d) ∧ Gd B w w5) := by
    refine ⟨?_, (unhide HG4).trans hd5⟩
    unfold blkR
    simpa [List.append_assoc] using hG5
  clear hG5 hd5 D3 l4
  go_wp2_with fail
  go_end0
  exact ⟨⟨_, rfl⟩, unhide HE⟩
end Go.Proofs.YtcafhmlpmbkhkaaGreatDoor
namespace Go.Proofs.YtcafhmlpmbkhkaaGreatDoor
open Go Go.Shelf Go.ChangeShapes Go.WideShapes Go.ChangeAt Go.RowKit Go.Maps
set_option linter.unusedVariables false
set_option linter.unusedSimpArgs false
def cvA (a : Ch.Ac) : Value := .agg #[.string (Ch.txN a.nm), .int .i64 a.ty, .int .i64 a.dy, .bool a.cl]
def obA (a : Ch.Ac) : Obj := .cells #[.string (Ch.txN a.nm), .int .i64 a.ty, .int .i64 a.dy, .bool a.cl] 139
def ldA (x : Value) : Sem Value := Instr.loadAt 139 x
theorem ldA_is (x : Value) : Instr.loadAt 139 x = ldA x := rfl
theorem sizA : (Tryz.prog.info? 139).map (·.size) = some 4 := by kernel_rfl
theorem lies_ldA {W : World} {p : Option Addr} {L : List Ch.Ac} (h : Lies Ch.kA W p L) {k : Nat} (hk : k < L.length) : ∃ b o, p = some ⟨b, o, none⟩ ∧ b < W.heap.size ∧ (ldA (.pointer (some ⟨b, o + k * 4, none⟩))).run Tryz.prog W = .ok (cvA L[k]) W := by
  obtain ⟨b, o, e, hb, hr⟩ := h.2 k hk
  exact ⟨b, o, e, hb, run_loadAt_mid (P := Tryz.prog) W b (o + k * 4) 139 (Ch.kA.enc L[k]) _ hr Tryz.underlying139 rfl sizA⟩
def ownA (F : ByteArray → List Int) (a : Ch.Ac) : Int := (sumL (F (Ch.txN a.nm))).1
def blkL (F : ByteArray → List Int) (t : Int) : List Ch.Ac → List Lm
  | [] => []
  | a :: L => if a.ty = t ∧ ownA F a ≠ 0 then ⟨⟨#[32, 32]⟩ ++ Ch.txN a.nm, sidS (ownA F a) t⟩ :: blkL F t L else blkL F t L
def blkE (F : ByteArray → List Int) (t : Int) : Int → List Ch.Ac → Int
  | o, [] => o
  | o, a :: L => if a.ty = t then blkE F t (orE o (sumL (F (Ch.txN a.nm))).2) L else blkE F t o L
theorem blkL_app (F : ByteArray → List Int) (t : Int) : ∀ A B : List Ch.Ac, blkL F t (A ++ B) = blkL F t A ++ blkL F t B
  | [], B => rfl
  | a :: A, B => by
    rw [List.cons_append, blkL, blkL, blkL_app F t A B]
    split <;> rfl
theorem blkE_app (F : ByteArray → List Int) (t : Int) : ∀ (A B : List Ch.Ac) (o : Int), blkE F t o (A ++ B) = blkE F t (blkE F t o A) B
  | [], B, o => rfl
  | a :: A, B, o => by
    rw [List.cons_append, blkE, blkE]
    split <;> exact blkE_app F t A B _
theorem blkL_len (F : ByteArray → List Int) (t : Int) : ∀ L : List Ch.Ac, (blkL F t L).length ≤ L.length
  | [] => Nat.le_refl _
  | a :: L => by
    have := blkL_len F t L
    rw [blkL]
    split <;> simp <;> omega
theorem blkL_isA (F : ByteArray → List Int) (t : Int) : ∀ (L : List Ch.Ac), ∀ x ∈ blkL F t L, isA x.amt
  | [], x, hx => by cases hx
  | a :: L, x, hx => by
    rw [blkL] at hx
    split at hx
    · rcases List.mem_cons.1 hx with rfl | hx
      · exact sidS_isA (sumL_isA _)
      · exact blkL_isA F t L x hx
    · exact blkL_isA F t L x hx
structure BlAt (w : World) (bb : Nat) (pa : Option Addr) (na ca mb n : Nat) (F : ByteArray → List Int) (over t : Int) (A : List Ch.Ac) (lv : Value) (W : World) : Prop where
  ba : Ba W bb pa na ca mb n F (blkE F t over A)
  own : W.ownsRow w.heap.size 166 2 lv (blkL F t A).length (kL.flat (blkL F t A))
  grw : w.grownBy W (some bb)
def BlkOut (w : World) (bb : Nat) (pa : Option Addr) (na ca mb n : Nat) (F : ByteArray → List Int) (over t : Int) (L : List Ch.Ac) (e : Ending) (w' : World) : Prop :=
  ∃ p c, e = .returned (.slice p (blkL F t L).length c) ∧ BlAt w bb pa na ca mb n F over t L (.slice p (blkL F t L).length c) w'
theorem own_far {W : World} {B e s n bb : Nat} {v : Value} {xs : List Value} (h : W.ownsRow B e s v n xs) (hb : bb < B) : v.ownBlock ≠ some bb := fun hv => by
  rcases h.2 with ⟨e1, h2⟩ | ⟨g, cap, cur, e1, hB, hh, h3⟩
  · rw [e1] at hv; cases hv
  · rw [e1] at hv
    have : g = bb := Option.some.inj hv
    omega
theorem own_grown {W W' : World} {B e s n bb : Nat} {v : Value} {xs : List Value} (h : W.ownsRow B e s v n xs) (hb : bb < B) (hg : W.grownBy W' (some bb)) : W'.ownsRow B e s v n xs := h.kept hg (.inr (own_far h hb))
theorem Gp.keepT {W W' : World} {base b n : Nat} {F : ByteArray → List Int} (h : Gp W base b n F) {row : Option Nat} (hg : W.grownBy W' row) (t : TypeId) (h2 : t ≠ 2) (ht : ∀ j, row = some j → ∃ ys f, W.heap[j]? = some (.cells ys t f)) : Gp W' base b n F := by
  obtain ⟨D, h1, hD, hF⟩ := h
  refine ⟨D, h1.kept hg (fun e => ?_) (fun es clock hb x hx => ?_), hD, hF⟩
  · obtain ⟨ys, f, hj⟩ := ht b e.symm
    obtain ⟨es, clock, hb, _⟩ := h1
    rw [hb] at hj
    cases hj
  · obtain ⟨es', clock', hb', FF, _⟩ := h1
    obtain ⟨rfl, rfl⟩ : es' = es ∧ clock' = clock := by rw [hb'] at hb; simpa using hb
    cases hx' : x.val.ownBlock with
    | none => exact Or.inl rfl
    | some g =>
      refine Or.inr (fun e1 => ?_)
      obtain ⟨y, hy⟩ := FF.reads x hx
      obtain ⟨z, hz, _⟩ := WideElems.rd_val hy
      obtain ⟨zs, hoi, _⟩ := rowElem_inv hz
      obtain ⟨ys, hg2⟩ := own_obj hoi.1 hx'
      obtain ⟨ys', f, hj⟩ := ht g e1.symm
      rw [hg2] at hj
      injection hj with hj
      injection hj with _ h5 _
      exact h2 h5.symm
attribute [local go_sem ↓] ldA_is
set_option maxRecDepth 100000 in
set_option maxHeartbeats 8000000 in
theorem block_any {w : World} {bb : Nat} {pa : Option Addr} {na ca mb n : Nat} {F : ByteArray → List Int} {over : Int} (h : Ba w bb pa na ca mb n F over) {L : List Ch.Ac} (hL : L.length = na) (hLA : ∀ W, w.grownBy W (some bb) → Lies Ch.kA W pa L) (hsz : ∀ a ∈ L, (Ch.txN a.nm).size ≤ 1048576) (hty : ∀ a ∈ L, fits64 a.ty) (hna : na ≤ 1048576) (hn : n ≤ 1048576) (t : Int) (ht : fits64 t) :
    Calls Tryz.prog 104 #[.pointer (some ⟨bb, 0, none⟩), .int .i64 t] w (BlkOut w bb pa na ca mb n F over t L) := by
  have hbw : bb < w.heap.size := h.inh
  have c0 : w.cell? ⟨bb, 0, none⟩ = some (.slice pa na ca) := by rw [cell_at h.blk]; rfl
  have H0 : Hid (BlAt w bb pa na ca mb n F over t [] (.slice none 0 0) w) := ⟨h, World.ownsRow_nil _ _ _ _, ⟨rfl, rfl, rfl, Nat.le_refl _, fun _ _ _ => rfl⟩⟩
  have HBW := hide hbw; have HL := hide hL; have HLA := hide hLA; have HSZ := hide hsz; have HTY := hide hty; have HNA := hide hna; have HN := hide hn
  clear h hL hLA hsz hty hbw hn
  go_enter Tryz.func104, Tryz.ntmps104
  go_wp2_with fail
  clear c0
  go_loopw [5, 14] (fun lv iv W => ∃ (k : Nat) (K : Int), k ≤ na ∧ iv = .int .i64 K ∧ K = (k : Int) ∧ (∃ p m c, lv = .slice p m c) ∧ Hid (BlAt w bb pa na ca mb n F over t (L.take k) lv W)) (fun _ iv _ => ((na : Int) - intOf iv).toNat)
  case atStart => exact ⟨0, 0, by omega, rfl, rfl, ⟨_, _, _, rfl⟩, unhide H0⟩
  case round =>
    obtain ⟨wo, rfl⟩ : ∃ x, x = wr := ⟨wr, rfl⟩
    obtain ⟨k, K, hk, rfl, hK, ⟨p, m, c, rfl⟩, HA⟩ := hrel
    by_cases hlt : k < na
    · have hI : K < (na : Int) := by omega
      have hK0 : 0 ≤ K := by omega
      have hKt : K.toNat = k := by omega
      have hkL : k < L.length := by have := unhide HL; omega
      obtain ⟨b, o, ep, hb, hld⟩ := lies_ldA (unhide HLA wo (unhide HA).grw) hkL
      obtain ⟨x, hx⟩ : ∃ x, x = L[k] := ⟨_, rfl⟩
      rw [← hx] at hld
      have hxm : x ∈ L := by rw [hx]; exact List.getElem_mem hkL
      have hTK : L.take (k + 1) = L.take k ++ [x] := by rw [List.take_succ_eq_append_getElem hkL, ← hx]
      obtain ⟨w1, hw1⟩ : ∃ W, W = wo.alloc (obA x) := ⟨_, rfl⟩
      have b1 : Below wo.heap.size wo w1 := by rw [hw1]; exact bal (Below.refl _ _) _
      have hh1 : w1.heap[wo.heap.size]? = some (obA x) := by rw [hw1]; exact heap_new _ _
      have hA1 : BlAt w bb pa na ca mb n F over t (L.take k) (.slice p m c) w1 := ⟨(unhide HA).ba.below b1, own_below (unhide HA).own b1, (unhide HA).grw.trans (grown_below _ b1)⟩
      have hxs : (Ch.txN x.nm).size ≤ 1048576 := unhide HSZ x hxm
      have hxt := unhide HTY x hxm
      obtain ⟨T, hT⟩ : ∃ z, z = x.ty := ⟨_, rfl⟩
      obtain ⟨N, hN⟩ : ∃ z, z = Ch.txN x.nm := ⟨_, rfl⟩
      have e0 : w1.cell? ⟨wo.heap.size, 0, none⟩ = some (.string N) := by rw [cell_at hh1, hN]; rfl
      have e1 : w1.cell? ⟨wo.heap.size, 1, none⟩ = some (.int .i64 T) := by rw [cell_at hh1, hT]; rfl
      have hw1' : wo.alloc (.cells #[.string N, .int .i64 T, .int .i64 x.dy, .bool x.cl] 139) = w1 := by rw [hw1, hN, hT]; rfl
      rw [← hT] at hxt
      rw [← hN] at hxs
      have hlw : wo.heap.size < w1.heap.size := (Array.getElem?_eq_some_iff.1 hh1).1
      have hwlo : w.heap.size ≤ wo.heap.size := (unhide HA).grw.size
      unfold cvA at hld
      rw [← hN, ← hT] at hld
      subst ep
      have HK := hide hK; have HA1 := hide hA1; have HTK := hide hTK; have HTT := hide hT; have HNN := hide hN; have HH1 := hide hh1; have HLW := hide hlw; have HWLO := hide hwlo; have HXS := hide hxs
      clear hkL hlt hK hx hxm hw1 b1 hA1 hTK hT hN hh1 HA hb hlw hwlo hxs
      by_cases hc : T = t
      · subst hc
        have HNEWE : Hid (blkE F T over (L.take (k + 1)) = orE (blkE F T over (L.take k)) (sumL (F N)).2) := by
          show _ = _
          rw [unhide HTK, blkE_app, blkE, if_pos (unhide HTT).symm, ← unhide HNN, blkE]
        have HNEWL : Hid ((sumL (F N)).1 = 0 → blkL F T (L.take (k + 1)) = blkL F T (L.take k)) := fun hz => by
          rw [unhide HTK, blkL_app, blkL, if_neg (by intro h; apply h.2; unfold ownA; rw [← unhide HNN]; exact hz), blkL, List.append_nil]
        have HNEWM : Hid ((sumL (F N)).1 ≠ 0 → blkL F T (L.take (k + 1)) = blkL F T (L.take k) ++ [⟨⟨#[32, 32]⟩ ++ N, sidS (sumL (F N)).1 T⟩]) := fun hz => by
          rw [unhide HTK, blkL_app, blkL, if_pos ⟨(unhide HTT).symm, by unfold ownA; rw [← unhide HNN]; exact hz⟩, blkL]
          unfold ownA
          rw [← unhide HNN]
        obtain ⟨wd, hwd⟩ : ∃ W, W = w1.drew := ⟨_, rfl⟩
        have bd : Below w1.heap.size w1 wd := by rw [hwd]; exact below_drewN (Below.refl _ _) 1
        have had := (unhide HA1).ba.below bd
        have hhd := (bd.block _ (unhide HLW)).trans (unhide HH1)
        obtain ⟨v, hlook, hown, hfit, hlen, -⟩ := had.gp.look N (by have := unhide HXS; unfold maxLen; omega) (by have := unhide HN; unfold maxLen; omega)
        have hlooks := had.gp.looks N (by have := unhide HXS; unfold maxLen; omega) hlook
        obtain ⟨pv, cv, ev, _, _⟩ := row_slice hown
        subst ev
        have hlies : Lies kN wd pv (F N) := own_lies kN_ok rfl hown
        have D := hide (sumb_any had (c := cv) rfl hlies hfit (by have := unhide HN; omega))
        have HSS : Hid (∀ (W : World) (ov : Int), W.heap[bb]? = some (balO (some ⟨b, o, none⟩) na ca mb ov) → W.heap[mb]? = wd.heap[mb]? → W.heap[wo.heap.size]? = some (obA x) → W.cell? ⟨bb, 1, none⟩ = some (.map (some mb)) ∧ W.cell? ⟨wo.heap.size, 0, none⟩ = some (.string N) ∧ (Instr.lookup 148 (.map (some mb)) (.string N) false).run Tryz.prog W = .ok (.slice pv (F N).length cv) W) := fun W ov h4 h2 h3 => by
          unfold balO at h4
          unfold obA at h3
          exact ⟨by rw [cell_at h4]; rfl, by rw [cell_at h3, unhide HNN]; rfl, hlooks W h2⟩
        obtain ⟨s, hs⟩ : ∃ z, z = (sumL (F N)).1 := ⟨_, rfl⟩
        have HSV := hide hs
        clear hs
        have S1 := hide (unhide HSS wd _ had.blk rfl hhd)
        have HAD := hide had; have HHD := hide hhd; have HWD := hide hwd
        have HBD : Hid (Below w1.heap.size w1 wd) := bd
        have Q1 := unhide S1
        rw [hwd] at Q1
        clear hwd had hhd bd hlook hown hfit hlen hlooks hlies
        have hne : (T != T) = false := by simp
        go_upto_region 6 with fail
        clear hld hw1' e0 e1 hne
        refine wp_region_last (n := 10) (S := fun W => W.cell? ⟨bb, 1, none⟩ = some (.map (some mb)) ∧ W.cell? ⟨wo.heap.size, 0, none⟩ = some (.string N) ∧ (Instr.lookup 148 (.map (some mb)) (.string N) false).run Tryz.prog W = .ok (.slice pv (F N).length cv) W) (by kernel_rfl) Q1 (fun hHeld => ?_)
        clear hHeld Q1
        rw [← unhide HWD]
        have Q1 := unhide S1
        refine tkW 0 ?_; refine tkW 1 ?_; refine tkW 2 ?_; refine tkW 3 ?_
        refine tkN 4 ?_ (hy := by (refine Or.inl ⟨by rfl, ?_⟩; intro W hSW; obtain ⟨hA, hB, hC⟩ := hSW; go_simp; try with_reducible rfl))
        refine tkW 5 ?_
        refine tkN 6 ?_ (hy := by (refine Or.inl ⟨by rfl, ?_⟩; intro W hSW; obtain ⟨hA, hB, hC⟩ := hSW; go_simp; try with_reducible rfl))
        refine tkN 7 ?_ (hy := by (refine Or.inl ⟨by rfl, ?_⟩; intro W hSW; obtain ⟨hA, hB, hC⟩ := hSW; go_simp; try with_reducible rfl))
        clear Q1
        refine wpAnyL_one (i := 8) (by kernel_rfl) rfl (fun KK hKK => ?_)
        go_simp
        go_wp2_with (go_at_call 106; refine (unhide D).mono ?_; rintro e w2 ⟨he, hB2, hg2⟩; rw [← unhide HSV] at he; subst he)
        have hwob : wo.heap.size ≠ bb := by have := unhide HBW; have := unhide HWLO; omega
        have hh2 : w2.heap[wo.heap.size]? = some (obA x) := (hg2.block _ (Nat.lt_of_lt_of_le (unhide HLW) (unhide HBD).size) (fun e => hwob (Option.some.inj e))).trans (unhide HHD)
        have hm2 : w2.heap[mb]? = wd.heap[mb]? := hg2.block _ (unhide HAD).gp.lt (fun e => by have := Option.some.inj e; have := hB2.lt; omega)
        have HO2 : Hid (w2.ownsRow w.heap.size 166 2 (.slice p m c) (blkL F T (L.take k)).length (kL.flat (blkL F T (L.take k)))) := own_grown (own_below (unhide HA1).own (unhide HBD)) (unhide HBW) hg2
        have HG2 : Hid (w.grownBy w2 (some bb)) := ((unhide HA1).grw.trans (grown_below _ (unhide HBD))).trans hg2
        have HBA2 : Hid (Ba w2 bb (some ⟨b, o, none⟩) na ca mb n F (blkE F T over (L.take (k + 1)))) := by
          have h := hB2
          rw [← unhide HNEWE] at h
          exact h
        have HH2 := hide hh2
        refine hKK.out _ _ (unhide HSS w2 _ hB2.blk hm2 hh2) (fun hHeld => ?_)
        clear hKK KK hB2 hg2 hm2 hh2 hwob D
        refine tkW 9 ?_
        clear hHeld
        refine wpAnyL_done (by kernel_rfl) ?_
        by_cases hz : s = 0
        · subst hz
          have HNEW : Hid (BlAt w bb (some ⟨b, o, none⟩) na ca mb n F over T (L.take (k + 1)) (.slice p m c) w2) := by
            have e := unhide HNEWL (unhide HSV).symm
            refine ⟨unhide HBA2, ?_, unhide HG2⟩
            rw [e]
            exact unhide HO2
          go_wp2_with fail
          exact ⟨⟨k + 1, K + 1, by omega, by go_num, by have := unhide HK; omega, ⟨_, _, _, rfl⟩, unhide HNEW⟩, by have := unhide HK; simp [intOf]; omega⟩
        · have hzb : (s != 0) = true := by rw [bne_iff_ne]; exact hz
          have hsA : isA s := by rw [unhide HSV]; exact sumL_isA _
          obtain ⟨z, hzz⟩ : ∃ z, z = sidS s T := ⟨_, rfl⟩
          have k1 : ¬ 9223372036854775807 < 2 + N.size := by have := unhide HXS; omega
          obtain ⟨w3, hw3⟩ : ∃ W, W = w2.drew := ⟨_, rfl⟩
          have b23 : Below w2.heap.size w2 w3 := by rw [hw3]; exact below_drewN (Below.refl _ _) 1
          have D3 := hide (sided_any s T hsA w3)
          rw [← hzz] at D3
          obtain ⟨LB, hLB⟩ : ∃ z : ByteArray, z = ⟨#[32, 32]⟩ ++ N := ⟨_, rfl⟩
          obtain ⟨w4, hw4⟩ : ∃ W, W = w3.alloc (.cells #[.string LB, .int .i64 z] 166) := ⟨_, rfl⟩
          have b34 : Below w3.heap.size w3 w4 := by rw [hw4]; exact bal (Below.refl _ _) _
          have b24 : Below w2.heap.size w2 w4 := b23.trans (b34.mono b23.size)
          have ho4 := own_below (unhide HO2) b24
          have hw24 : w.heap.size ≤ w4.heap.size := Nat.le_trans (unhide HG2).size b24.size
          obtain ⟨p', c', w5, r5, o5, b5, k5, q5⟩ := run_app kL_ok (L := blkL F T (L.take k)) (M := [(⟨LB, z⟩ : Lm)]) 133 ho4 hw24 (some ⟨w3.heap.size, 0, none⟩) 1 (fun h => by cases h) (by rw [hw4]; exact one_lies w3 (⟨LB, z⟩ : Lm) 166 _ rfl) (by
            have h1 := blkL_len F T (L.take k)
            rw [List.length_take] at h1
            simp only [List.length_singleton]
            omega)
          simp only [List.length_singleton] at r5 o5 q5
          have hh4 := (b24.block _ (Array.getElem?_eq_some_iff.1 (unhide HH2)).1).trans (unhide HH2)
          have hh5 : w5.heap[wo.heap.size]? = some (obA x) := (k5 _ (Array.getElem?_eq_some_iff.1 hh4).1 (not_own ho4 hh4 (by decide))).trans hh4
          have HSN : Hid (∀ W : World, W.heap[wo.heap.size]? = some (obA x) → W.cell? ⟨wo.heap.size, 0, none⟩ = some (.string N)) := fun W h3 => by
            unfold obA at h3
            rw [cell_at h3, unhide HNN]; rfl
          have hh3 := (b23.block _ (Array.getElem?_eq_some_iff.1 (unhide HH2)).1).trans (unhide HH2)
          have s3 := unhide HSN w3 hh3
          have S4 := hide (unhide HSN w4 hh4)
          have S5 := hide (unhide HSN w5 hh5)
          have HNEW : Hid (BlAt w bb (some ⟨b, o, none⟩) na ca mb n F over T (L.take (k + 1)) (.slice p' ((blkL F T (L.take k)).length + 1) c') w5) := by
            have e := unhide HNEWM (by rw [← unhide HSV]; exact hz)
            rw [← unhide HSV, ← hzz, ← hLB] at e
            have hba4 := (unhide HBA2).below b24
            have hg5 : w4.grownBy w5 (Value.slice p m c).ownBlock := ⟨b5.os, b5.tape, b5.output, b5.size, fun j hj hne => k5 j hj (fun e => hne e.symm)⟩
            refine ⟨⟨(b5.block _ (unhide HBW)).trans hba4.blk, hba4.gp.keepT hg5 166 (by decide) (fun j hj => ?_), hba4.lt⟩, ?_, ?_⟩
            · obtain ⟨ys, hy⟩ := own_obj ho4 hj
              exact ⟨ys, _, hy⟩
            · rw [e, List.length_append, List.length_singleton]
              exact o5
            · have h4 : w.grownBy w4 (some bb) := (unhide HG2).trans (grown_below _ b24)
              exact ⟨b5.os.trans h4.os, b5.tape.trans h4.tape, b5.output.trans h4.output, Nat.le_trans h4.size b5.size, fun j hj hne => (b5.block j hj).trans (h4.block j hj hne)⟩
          have HR5 := hide r5
          have HW3 := hide hw3; have HW4 := hide hw4; have HLB := hide hLB; have HZZ := hide hzz
          have hs2 : w2.drew.cell? ⟨wo.heap.size, 0, none⟩ = some (.string N) := by rw [← hw3]; exact s3
          clear hw3 b23 hw4 b34 b24 ho4 hw24 r5 o5 b5 k5 q5 hh4 hh5 hh3 hsA hzz hLB
          go_upto_region 8 with fail
          refine wp_region_last (n := 11) (S := fun W => W.cell? ⟨wo.heap.size, 0, none⟩ = some (.string N)) (by kernel_rfl) hs2 (fun hHeld => ?_)
          clear hHeld hs2
          rw [← unhide HW3]
          refine tkW 0 ?_; refine tkW 1 ?_
          refine tkN 2 ?_ (hy := by (refine Or.inl ⟨by rfl, ?_⟩; intro W hSW; go_simp; try with_reducible rfl))
          refine tkW 3 ?_; refine tkW 4 ?_; refine tkW 5 ?_
          refine wpAnyL_one (i := 6) (by kernel_rfl) rfl (fun KK hKK => ?_)
          go_simp
          go_wp2_with (go_at_call 177; refine (unhide D3).mono ?_; rintro e w' ⟨rfl, hw'⟩; subst hw')
          refine hKK.out _ _ s3 (fun hHeld => ?_)
          clear hKK KK D3
          refine tkW 7 ?_
          refine wpAnyL_one (i := 8) (by kernel_rfl) rfl (fun KK hKK => ?_)
          go_simp
          rw [← unhide HLB]
          have HW4' := (unhide HW4).symm
          rw [HW4']
          refine hKK.out _ _ (unhide S4) (fun hHeld => ?_)
          clear hKK KK s3 HW4'
          refine wpAnyL_one (i := 9) (by kernel_rfl) rfl (fun KK hKK => ?_)
          refine step_append_run _ (by rfl) _ _ 133 (by rfl) _ _ _ _ (by rfl) (by rfl) (unhide HR5) ?_
          refine hKK.out _ _ (unhide S5) (fun hHeld => ?_)
          clear hKK KK
          refine tkW 10 ?_
          refine wpAnyL_done (by kernel_rfl) ?_
          go_wp2_with fail
          exact ⟨⟨k + 1, K + 1, by omega, by go_num, by have := unhide HK; omega, ⟨_, _, _, rfl⟩, unhide HNEW⟩, by have := unhide HK; simp [intOf]; omega⟩
      · have hne : (T != t) = true := by rw [bne_iff_ne]; exact hc
        have HNEW : Hid (BlAt w bb (some ⟨b, o, none⟩) na ca mb n F over t (L.take (k + 1)) (.slice p m c) w1) := by
          have h := unhide HA1
          have e1 : blkE F t over (L.take (k + 1)) = blkE F t over (L.take k) := by rw [unhide HTK, blkE_app, blkE, if_neg (by rw [← unhide HTT]; exact hc), blkE]
          have e2 : blkL F t (L.take (k + 1)) = blkL F t (L.take k) := by rw [unhide HTK, blkL_app, blkL, if_neg (by rw [← unhide HTT]; exact fun h => hc h.1), blkL, List.append_nil]
          exact ⟨by rw [e1]; exact h.ba, by rw [e2]; exact h.own, h.grw⟩
        clear hc e0
        go_wp2_with fail
        exact ⟨⟨k + 1, K + 1, by omega, by go_num, by have := unhide HK; omega, ⟨_, _, _, rfl⟩, unhide HNEW⟩, by have := unhide HK; simp [intOf]; omega⟩
    · have hI : ¬ K < (na : Int) := by omega
      have hkn : k = na := by omega
      subst hkn
      have HFIN : Hid (BlkOut w bb pa k ca mb n F over t L (.returned (.slice p m c)) wo) := by
        have h := unhide HA
        rw [List.take_of_length_le (by have := unhide HL; omega)] at h
        obtain ⟨p', c', e, _, _⟩ := row_slice h.own
        cases e
        exact ⟨p, c, rfl, h⟩
      clear HA hK
      go_wp2_with fail
      go_ret
      exact unhide HFIN
end Go.Proofs.YtcafhmlpmbkhkaaGreatDoor
namespace Go.Proofs.YtcafhmlpmbkhkaaGreatDoor
open Go Go.Shelf Go.ChangeShapes Go.WideShapes Go.ChangeAt Go.RowKit Go.Maps
set_option linter.unusedVariables false
set_option linter.unusedSimpArgs false
def iE (F : ByteArray → List Int) (L : List Ch.Ac) : List Lm := blkL F 4 L
def iS (F : ByteArray → List Int) (L : List Ch.Ac) : List Lm := blkL F 5 L
def iA (F : ByteArray → List Int) (L : List Ch.Ac) : Int := (sumL ((iE F L).map Lm.amt)).1
def iB (F : ByteArray → List Int) (L : List Ch.Ac) : Int := (sumL ((iS F L).map Lm.amt)).1
def iO (F : ByteArray → List Int) (L : List Ch.Ac) : Int := orE (orE (orE (blkE F 5 (blkE F 4 0 L) L) (sumL ((iE F L).map Lm.amt)).2) (sumL ((iS F L).map Lm.amt)).2) (sumL [iA F L, -(iB F L)]).2
theorem blkR_two (title : ByteArray) (X : List Lm) (s : Int) (d : Nat) : ∀ r ∈ blkR title X s d, r.length ≤ 2 := by
  intro r hr
  unfold blkR at hr
  rw [List.mem_append, List.mem_append, List.mem_singleton, List.mem_singleton] at hr
  rcases hr with (rfl | hr) | rfl
  · show 1 ≤ 2; omega
  · obtain ⟨x, hx, rfl⟩ := List.mem_map.1 hr
    exact Nat.le_refl _
  · exact Nat.le_refl _
theorem blkR_cell {d : Nat} (hd : d ≤ 6) {title : ByteArray} (ht : title.size ≤ 200) {X : List Lm} (h : ∀ x ∈ X, x.lab.size ≤ 200) (s : Int) : ∀ r ∈ blkR title X s d, ∀ c ∈ r, c.length ≤ 200 := by
  intro r hr c hc
  unfold blkR at hr
  rw [List.mem_append, List.mem_append, List.mem_singleton, List.mem_singleton] at hr
  have hl : ∀ b : ByteArray, b.data.toList.length = b.size := fun b => by simp
  rcases hr with (rfl | hr) | rfl
  · rw [List.mem_singleton] at hc
    subst hc
    rw [hl]; exact ht
  · obtain ⟨x, hx, rfl⟩ := List.mem_map.1 hr
    simp only [List.mem_cons, List.not_mem_nil, or_false] at hc
    rcases hc with rfl | rfl
    · rw [hl]; exact h x hx
    · have := txt_len x.amt d hd; omega
  · simp only [List.mem_cons, List.not_mem_nil, or_false] at hc
    rcases hc with rfl | rfl
    · rw [hl, txB_len]; decide
    · have := txt_len s d hd; omega
theorem blkL_lab {L : List Ch.Ac} (h : ∀ a ∈ L, (Ch.txN a.nm).size ≤ 101) (F : ByteArray → List Int) (t : Int) : ∀ x ∈ blkL F t L, x.lab.size ≤ 200 := by
  induction L with
  | nil => intro x hx; cases hx
  | cons a L ih =>
    intro x hx
    rw [blkL] at hx
    split at hx
    · rcases List.mem_cons.1 hx with rfl | hx
      · have := h a (by simp)
        show (_ ++ _ : ByteArray).size ≤ 200
        rw [ByteArray.size_append]
        show 2 + _ ≤ 200
        omega
      · exact ih (fun a ha => h a (by simp [ha])) x hx
    · exact ih (fun a ha => h a (by simp [ha])) x hx
theorem errC_good {L : List Ch.Ac} {R : List Po} (h : errC L R = 0) : Ch.Good L := by
  unfold errC at h
  by_cases hf : Ch.fromOk L
  · exact Ch.ok_good.1 hf
  · rw [if_neg hf] at h
    cases h
theorem good_names {L : List Ch.Ac} (h : Ch.Good L) : ∀ a ∈ L, (Ch.txN a.nm).size ≤ 101 := fun a ha => by
  have := name_short (h.name a ha)
  show a.nm.toArray.size ≤ 101
  simpa using this
theorem gd_own {C B t s n : Nat} {W W' : World} {v : Value} {xs : List Value} (h : W.ownsRow B t s v n xs) (hg : Gd C W W') (h1 : t ≠ 192) (h2 : t ≠ 93) : W'.ownsRow B t s v n xs := row_keep h fun g hgv => by
  obtain ⟨ys, hy⟩ := own_obj h hgv
  exact hg.kept _ _ _ _ hy h1 h2
theorem grown_bel {W W' : World} {B b : Nat} (h : W.grownBy W' (some b)) (hB : B ≤ b) (hb : b < W.heap.size) : Below B W W' := ⟨h.os, h.tape, h.output, h.size, fun k hk => h.block k (by omega) (fun e => by have := Option.some.inj e; omega)⟩
end Go.Proofs.YtcafhmlpmbkhkaaGreatDoor
