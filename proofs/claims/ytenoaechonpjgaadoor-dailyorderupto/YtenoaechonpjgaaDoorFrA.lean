/- daily: From (13) of a state's list. -/
import Derived.Test.YtenoaechonpjgaaDoorFrN
import Derived.Test.YtenoaechonpjgaaDoorFsA
import Derived.Test.YtenoaechonpjgaaDoorEqA
import Derived.OwnWalk
namespace Go.Proofs.YtenoaechonpjgaaDoor
open Go Go.Shelf Go.ChangeShapes Go.WideShapes Go.ChangeAt Go.RowKit Go.Maps Go.Sort
set_option linter.unusedVariables false
attribute [local go_sem ↓] ld44_is
def s24 (x y : Value) : Sem Unit := Instr.storeAt 24 x y
theorem s24_is (x y : Value) : Instr.storeAt 24 x y = s24 x y := rfl
attribute [local go_sem ↓] s24_is
theorem below_sets {B : Nat} {a : World} (b : Nat) (hb : B ≤ b) : ∀ (vs : List Value) (o : Nat) {w : World}, Below B a w → Below B a (w.setCells b o vs)
  | [], _, _, h => h
  | v :: r, o, _, h => below_sets b hb r (o + 1) (h.setCell (p := ⟨b, o, none⟩) hb v)
theorem size_sets (b : Nat) : ∀ (vs : List Value) (o : Nat) (w : World), (w.setCells b o vs).heap.size = w.heap.size
  | [], _, _ => rfl
  | v :: r, o, w => (size_sets b r (o + 1) _).trans (by simp)
/-- the rows that From makes, i of them written -/
structure Mk9 (w W : World) (g n : Nat) (R : List Ro) (i : Nat) : Prop where
  at' : ∀ k (hk : k < R.length), k < i → W.rangeAt g (k * 9) R[k].vals
  th : W.there g 0 (n * 9)
  lt : g < W.heap.size
  bel : Below w.heap.size w W
theorem Mk9.below {w W W' : World} {g n : Nat} {R : List Ro} {i : Nat} (h : Mk9 w W g n R i) (hb : Below W.heap.size W W') : Mk9 w W' g n R i where
  at' k hk hi j u hu := (hb.cell (p := ⟨g, k * 9 + j, none⟩) h.lt).trans (h.at' k hk hi j u hu)
  th j hj := by
    have := h.th j hj
    rw [hb.cell (p := ⟨g, 0 + j, none⟩) h.lt, hb.frozen (p := ⟨g, 0 + j, none⟩) h.lt]
    exact this
  lt := Nat.lt_of_lt_of_le h.lt hb.size
  bel := h.bel.trans (hb.mono h.bel.size)
theorem Mk9.put {w W : World} {g n : Nat} {R : List Ro} {i : Nat} (hg : w.heap.size ≤ g) (h : Mk9 w W g n R i) (hn : R.length = n) (hi : i < R.length) : Mk9 w (W.setCells g (i * 9) R[i].vals) g n R (i + 1) where
  at' k hk hi' := by
    by_cases e : k = i
    · subst e
      exact World.rangeAt_setCells_same W g (k * 9) _ (fun j hj => by
        have h1 := h.th (k * 9 + j) (by have : j < 9 := hj; omega)
        rw [Nat.zero_add] at h1
        exact h1)
    · exact World.rangeAt_setCells_apart (h.at' k hk (by omega)) g (i * 9) _ (.inr (.inl (by have : R[i].vals.length = 9 := rfl; have : R[k].vals.length = 9 := rfl; omega)))
  th := World.there_setCells h.th g (i * 9) _
  lt := by rw [size_sets]; exact h.lt
  bel := below_sets g hg _ _ h.bel
theorem run_s24 {W : World} {g n i : Nat} (h : W.there g 0 (n * 9)) (hi : i < n) (s : ByteArray) (D F : Int) : (s24 (.pointer (some ⟨g, i * 9, none⟩)) (.agg #[.int .i64 0, .int .i64 0, .int .i64 D, .int .i64 0, .string ⟨#[]⟩, .string s, .int .i64 F, .string ⟨#[]⟩, .string ⟨#[]⟩])).run Tryd.prog W = .ok () (W.setCells g (i * 9) [.int .i64 0, .int .i64 0, .int .i64 D, .int .i64 0, .string ⟨#[]⟩, .string s, .int .i64 F, .string ⟨#[]⟩, .string ⟨#[]⟩]) :=
  run_storeAt_mid (P := Tryd.prog) W g (i * 9) 24 #[.int .i64 0, .int .i64 0, .int .i64 D, .int .i64 0, .string ⟨#[]⟩, .string s, .int .i64 F, .string ⟨#[]⟩, .string ⟨#[]⟩] (fun j hj => by
    have h1 := h (i * 9 + j) (by simp at hj; omega)
    rw [Nat.zero_add] at h1
    exact h1) size24 (by simp [Value.oneCell'])
theorem Mk9.first {w W : World} {n : Nat} {R : List Ro} {xs : List Value} (hr : W.ownsRow w.heap.size 24 9 (.slice (some ⟨w.heap.size, 0, none⟩) n n) n xs) (hg : w.grownBy W none) : Mk9 w W w.heap.size n R 0 where
  at' k hk h := by omega
  th j hj := by
    rcases hr.2 with ⟨e, _⟩ | ⟨g, cap, cur, e, hB, hh, hc, hm, hcs, ht⟩
    · cases e
    · injection e with e1 e2 e3
      injection e1 with e1
      injection e1 with e1
      subst e1
      rw [Nat.zero_add]
      unfold World.cell? World.frozen?
      simp only [hh]
      have : j < cur.size := by rw [hcs, ← e3]; exact hj
      simp [this]
  lt := by
    rcases hr.2 with ⟨e, _⟩ | ⟨g, cap, cur, e, hB, hh, hc, hm, hcs, ht⟩
    · cases e
    · injection e with e1 e2 e3
      injection e1 with e1
      injection e1 with e1
      subst e1
      exact (Array.getElem?_eq_some_iff.1 hh).1
  bel := below_of_grown hg
set_option maxRecDepth 100000 in
set_option maxHeartbeats 4000000 in
theorem from_any {w : World} {R : List Ro} {L : List Dr} (hst : Stt R L) (hc : Can R) (hok : ∀ r ∈ R, okR r) (hf : ∀ k, fitT (tol R k)) {p : Option Addr} {n c : Nat} (hn : L.length = n) (hnb : n ≤ 1048576) (hL : Lies kD w p L) :
    Calls Tryd.prog 13 #[.slice p n c] w fun e w' => ∃ d, e = .returned (.tuple #[.pointer (some ⟨d, 0, none⟩), .int .i64 0]) ∧ w.heap.size ≤ d ∧ Vw w' (d + 1) d (L.map dRo) ∧ Below w.heap.size w w' := by
  obtain ⟨i0, z0, hi0, hz0, hz1, hz2, _⟩ := kR_ok.info
  have hby : Hid (i0.bytes * n ≤ 281474976710656) := by show _ ≤ _; rw [hz2]; show 104 * n ≤ _; omega
  have hml : Hid (n ≤ maxLen) := by show _ ≤ _; unfold maxLen; omega
  obtain ⟨hc', hok', hf'⟩ := hst.rows hc hok hf
  have HST := hide hst; have HL := hide hL; have HN := hide hn; have HI := hide hi0; have HZ0 := hide hz0; have HZ1 := hide hz1; have HC := hide hc'; have HG : Hid ((∀ r ∈ L.map dRo, okR r) ∧ ∀ k, fitT (tol ([] ++ L.map dRo) k)) := ⟨hok', hf'⟩
  clear hst hc hok hf hn hL hi0 hz0 hz1 hz2 hc' hok' hf'
  go_enter Tryd.func13, Tryd.ntmps13
  go_wp2_with (at_make; refine wpList_make_full _ rfl _ _ 22 rfl w.heap.size 24 i0 _ 9 Tryd.underlying22 (unhide HI) (unhide HZ0) (unhide HZ1) .i64 .i64 _ _ n rfl rfl rfl rfl (unhide hby) (unhide hml) (Nat.le_refl _) ?_; intro w0 hown0 hgrow0)
  have hM0 : Hid (Mk9 w w0 w.heap.size n (L.map dRo) 0) := Mk9.first hown0 hgrow0
  clear hown0 hgrow0
  go_loopw [13] (fun v13 wr => ∃ (i : Nat), v13 = .int .i64 i ∧ i ≤ n ∧ Hid (Mk9 w wr w.heap.size n (L.map dRo) i)) (fun v13 _ => n - (intOf v13).toNat)
  case atStart => exact ⟨0, rfl, by omega, hM0⟩
  case round =>
    obtain ⟨i, rfl, hi, hrel⟩ := hrel
    by_cases hlt : i < n
    · have hiL : i < L.length := by rw [unhide HN]; exact hlt
      have hM := unhide hrel
      obtain ⟨q, o, e, hq, hr⟩ := ((unhide HL).below hM.bel).2 i hiL
      subst e
      obtain ⟨s, x, y, z, hxyz⟩ : ∃ s x y z, L[i] = (s, x, y, z) := ⟨_, _, _, _, rfl⟩
      rw [hxyz] at hr
      have hld : (ld44 (.pointer (some ⟨q, o + i * 4, none⟩))).run Tryd.prog wr = .ok (.agg #[.string s, .int .i64 x, .int .i64 y, .int .i64 z]) wr := run_loadAt_mid (P := Tryd.prog) _ q (o + i * 4) 44 [.string s, .int .i64 x, .int .i64 y, .int .i64 z] _ hr Tryd.underlying44 rfl size44
      have hMA := hM.below (bal (Below.refl wr.heap.size wr) (.cells #[.string s, .int .i64 x, .int .i64 y, .int .i64 z] 44))
      have hst := run_s24 hMA.th hlt s x y
      have hv : ((L.map dRo)[i]'(by rw [List.length_map]; exact hiL)).vals = [.int .i64 0, .int .i64 0, .int .i64 x, .int .i64 0, .string ⟨#[]⟩, .string s, .int .i64 y, .string ⟨#[]⟩, .string ⟨#[]⟩] := by rw [List.getElem_map, hxyz]; rfl
      have hMP := hMA.put (Nat.le_refl _) (by rw [List.length_map]; exact unhide HN) (by rw [List.length_map]; exact hiL)
      rw [hv] at hMP
      have HMP := hide hMP
      clear hM hMA hMP hv hr hrel hxyz hiL
      go_wp2_with fail
      exact ⟨⟨i + 1, by simp, by omega, HMP⟩, by simp [intOf]; omega⟩
    · have hin : i = n := by omega
      subst hin
      have hM := unhide hrel
      obtain ⟨O2, hO2⟩ : ∃ O, O = Obj.cells #[.map none] 48 := ⟨_, rfl⟩
      have dN := hide (new_any wr)
      rw [← hO2] at dN
      have hV2 : Vw (wr.alloc O2) (wr.heap.size + 1) wr.heap.size [] := by rw [hO2]; exact Vw.made wr
      have hM2 := hM.below (bal (Below.refl wr.heap.size wr) O2)
      have hs2 : (wr.alloc O2).heap.size = wr.heap.size + 1 := by simp
      have hB2 := hM2.bel
      obtain ⟨w2, hw2⟩ : ∃ w2, w2 = wr.alloc O2 := ⟨_, rfl⟩
      rw [← hw2] at hV2 hM2 dN hs2 hB2
      have hRl : (L.map dRo).length = i := by rw [List.length_map]; exact unhide HN
      have hrows : Lies kR w2 (some ⟨w.heap.size, 0, none⟩) (L.map dRo) := by
        refine ⟨(fun h => by cases h), fun k hk => ⟨w.heap.size, 0, rfl, hM2.lt, ?_⟩⟩
        rw [Nat.zero_add]
        exact hM2.at' k hk (by rw [← hRl]; exact hk)
      have dA := hide (apply_vw (cR := i) hV2 (by simp) hRl (by omega) hrows (unhide HC))
      have hwr := hM.bel.size
      have HB2 := hide hB2; have HS2 := hide hs2; have HWR := hide hwr; have HRL := hide hRl
      clear hM hM2 hB2 hs2 hV2 hrows hrel hwr hRl hw2 hO2
      go_wp2_with fail
      refine (unhide dN).mono ?_
      rintro e wx ⟨rfl, hw⟩
      rw [hw]
      clear hw wx dN
      go_wp2_with fail
      refine (unhide dA).mono ?_
      rintro e w3 hO
      rcases hO with ⟨hno, _⟩ | ⟨_, rfl, hV3, hfr⟩
      · exact absurd (unhide HG) hno
      rw [List.nil_append] at hV3
      have hB3 : Below w.heap.size w w3 := (unhide HB2).trans ((hfr.below (by rw [unhide HS2]; omega) (by omega)).mono (unhide HWR))
      have dS := hide (state_vw hV3 (by rw [unhide HRL]; omega))
      have HV3 := hide hV3; have HB3 := hide hB3
      clear hV3 hB3 hfr dA
      go_wp2_with fail
      refine (unhide dS).mono ?_
      rintro e w4 ⟨L4, p4, c4, hst4, rfl, hrow4, hb4⟩
      have eL : L4 = L := hst4.same (unhide HST) (fun k d => stt_own (unhide HST) k d)
      subst eL
      have hB4 : Below w.heap.size w w4 := (unhide HB3).trans (hb4.mono (unhide HB3).size)
      have hV4 := (unhide HV3).below hb4
      have dE := hide (equal_any (c1 := c4) (c2 := c) (unhide HN) (by omega) (own_lies kD_ok rfl hrow4) ((unhide HL).below hB4))
      have HV4 := hide hV4; have HB4 := hide hB4
      rw [unhide HN]
      clear hV4 hB4 hrow4 hb4 hst4 dS
      go_wp2_with fail
      refine (unhide dE).mono ?_
      rintro e wx ⟨rfl, m, hw⟩
      have HFN : Hid (Vw wx (wr.heap.size + 1) wr.heap.size (L4.map dRo) ∧ Below w.heap.size w wx) := by
        rw [hw]
        exact ⟨(unhide HV4).below (below_drewN (Below.refl _ _) m), below_drewN (unhide HB4) m⟩
      clear hw
      go_wp2_with fail
      go_ret2
      exact ⟨_, rfl, unhide HWR, (unhide HFN).1, (unhide HFN).2⟩
end Go.Proofs.YtenoaechonpjgaaDoor
